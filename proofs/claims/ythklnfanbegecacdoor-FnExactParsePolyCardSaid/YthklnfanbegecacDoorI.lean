/- impl.field.element, field.zero, field.one, the element's methods number and timesX on four digits. -/
import Derived.Test.YthklnfanbegecacDoorG
import Derived.Test.YthklnfanbegecacDoorQ
namespace Go.Proofs.YthklnfanbegecacDoor
open Go.RowKit
/-- An element by its number. -/
def elV (q a : Int) : Value := elD q (pr q) (pl q) (dg q a 0) (dg q a 1) (dg q a 2) (dg q a 3)
/-- A field. -/
def fdV (q : Int) : Value := .agg #[.int .i64 q, .int .i64 (pr q), .int .i64 (pl q)]
theorem elV_one (q a : Int) (h : plN q = 1) (hp : pr q = q) (a0 : 0 ≤ a) (a1 : a < q) : elV q a = elD q q 1 a 0 0 0 := by
  simp [elV, elD, dg, digs, h, pl, hp, Int.emod_eq_of_lt a0 a1]
theorem elV_4 (a : Int) : elV 4 a = elD 4 2 2 (a % 2) (a / 2 % 2) 0 0 := by simp [elV, elD, dg, digs, plN, pl, pr]
theorem elV_8 (a : Int) : elV 8 a = elD 8 2 3 (a % 2) (a / 2 % 2) (a / 2 / 2 % 2) 0 := by simp [elV, elD, dg, digs, plN, pl, pr]
theorem elV_9 (a : Int) : elV 9 a = elD 9 3 2 (a % 3) (a / 3 % 3) 0 0 := by simp [elV, elD, dg, digs, plN, pl, pr]
theorem elV_16 (a : Int) : elV 16 a = elD 16 2 4 (a % 2) (a / 2 % 2) (a / 2 / 2 % 2) (a / 2 / 2 / 2 % 2) := by simp [elV, elD, dg, digs, plN, pl, pr]
theorem five (q : Int) (h : isSz q = true) : (plN q = 1 ∧ pr q = q ∧ 2 ≤ q ∧ q ≤ 13 ∧ q ≠ 4 ∧ q ≠ 8 ∧ q ≠ 9 ∧ q ≠ 16) ∨ q = 4 ∨ q = 8 ∨ q = 9 ∨ q = 16 := by
  rcases sz_split q h with rfl | rfl | rfl | rfl | rfl | rfl | rfl | rfl | rfl | rfl <;> decide

end Go.Proofs.YthklnfanbegecacDoor
