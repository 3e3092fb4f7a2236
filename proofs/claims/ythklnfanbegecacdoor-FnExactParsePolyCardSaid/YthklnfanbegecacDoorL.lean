/- impl.elementOf where it fails; impl.pairOf by contracts. -/
import Derived.Test.YthklnfanbegecacDoorK
namespace Go.Proofs.YthklnfanbegecacDoor
open Go.RowKit

end Go.Proofs.YthklnfanbegecacDoor
