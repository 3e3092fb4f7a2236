/- impl.mapped at the functions that chapter 2 begins with: elements of numbers, numbers of elements; impl.validPoly by a contract. -/
import Derived.Test.YthklnfanbegecacDoorHI
import Derived.Test.YthklnfanbegecacDoorHE
namespace Go.Proofs.YthklnfanbegecacDoor
open Go.RowKit
/-- The block of a list that a closure holds. -/
abbrev lblk (T : TypeId) (v : Value) : Obj := .cells #[v] T
theorem at_box {w : World} {b : Nat} {v : Value} {T : TypeId} (h : w.heap[b]? = some (.cells #[v] T (0, 0))) : w.cell? ⟨b, 0, none⟩ = some v := by
  rw [cell_of_row w b 0 _ T (0, 0) h]; rfl

end Go.Proofs.YthklnfanbegecacDoor
