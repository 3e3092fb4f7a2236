/- The element's methods by numbers: an element is told by its number. -/
import Derived.Test.YthklnfanbegecacDoorI
import Derived.Deep.RegionWith
namespace Go.Proofs.YthklnfanbegecacDoor
open Go.RowKit
/-- An element by its number, written out. -/
abbrev elE (q a : Int) : Value := .agg #[.int .i64 q, .int .i64 (pr q), .int .i64 (pl q), .int .i64 (dg q a 0), .int .i64 (dg q a 1), .int .i64 (dg q a 2), .int .i64 (dg q a 3)]
/-- A field, written out. -/
abbrev fdE (q : Int) : Value := .agg #[.int .i64 q, .int .i64 (pr q), .int .i64 (pl q)]
end Go.Proofs.YthklnfanbegecacDoor
