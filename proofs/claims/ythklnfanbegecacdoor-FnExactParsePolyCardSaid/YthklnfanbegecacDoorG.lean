/- The element's methods plus, negated, scaled on four digits. -/
import Derived.Test.YthklnfanbegecacDoorB
namespace Go.Proofs.YthklnfanbegecacDoor
open Go.RowKit
/-- An element of the field of q = p^k with its four places. -/
abbrev elD (q p k d0 d1 d2 d3 : Int) : Value := .agg #[.int .i64 q, .int .i64 p, .int .i64 k, .int .i64 d0, .int .i64 d1, .int .i64 d2, .int .i64 d3]

end Go.Proofs.YthklnfanbegecacDoor
