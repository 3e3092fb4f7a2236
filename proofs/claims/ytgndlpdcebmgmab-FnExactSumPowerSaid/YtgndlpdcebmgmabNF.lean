/- Dickson's polynomials of the model: spec.kdDickson, by a contract. -/
import Derived.Test.YtgndlpdcebmgmabNE
namespace Go.Proofs.Ytgndlpdcebmgmab
open Go.RowKit
theorem dkt_step {m : Nat} {a : Int} (n x : Nat) : addF m (mulF m (x : Int) (dkt m a (n + 1) x)) (mulF m (subF m 0 a) (dkt m a n x)) = dkt m a (n + 2) x := rfl
end Go.Proofs.Ytgndlpdcebmgmab
