/- The element's methods by numbers: an element is told by its number. -/
import Derived.Test.YthklnfanbegecabDoorI
import Derived.Deep.RegionWith
namespace Go.Proofs.YthklnfanbegecabDoor
open Go.RowKit
/-- An element by its number, written out. -/
abbrev elE (q a : Int) : Value := .agg #[.int .i64 q, .int .i64 (pr q), .int .i64 (pl q), .int .i64 (dg q a 0), .int .i64 (dg q a 1), .int .i64 (dg q a 2), .int .i64 (dg q a 3)]
/-- A field, written out. -/
abbrev fdE (q : Int) : Value := .agg #[.int .i64 q, .int .i64 (pr q), .int .i64 (pl q)]
theorem elementE (q a : Int) (w : World) (h : isSz q = true) (a0 : 0 ≤ a) (a1 : a < q) :
    Calls Tryd.prog 18 #[fdE q, .int .i64 a] w fun e w' => e = .returned (elE q a) ∧ Below w.heap.size w w' := element_any q a w h a0 a1
end Go.Proofs.YthklnfanbegecabDoor
