/- impl.elementOf where it fails; impl.pairOf by contracts. -/
import Derived.Test.YthklnfanbegecabDoorK
namespace Go.Proofs.YthklnfanbegecabDoor
open Go.RowKit

end Go.Proofs.YthklnfanbegecabDoor
