/- spec.fdPower, spec.fdInverse and spec.fdOrder by contracts. -/
import Derived.Test.YthklnfanbegecacF
import Derived.Test.YthklnfanbegecacQ
namespace Go.Proofs.Ythklnfanbegecac
open Go.RowKit

theorem invF_bd (q a : Int) (h : isSz q = true) (a0 : 0 ≤ a) (a1 : a < q) : 0 ≤ invF q a ∧ invF q a < q := pw_bd q a h a0 a1 _
end Go.Proofs.Ythklnfanbegecac
