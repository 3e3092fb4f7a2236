/- spec.fdPlus and spec.fdLess by contracts. -/
import Derived.Test.YthklnfanbegecabDoorD
namespace Go.Proofs.YthklnfanbegecabDoor
open Go.RowKit

end Go.Proofs.YthklnfanbegecabDoor
