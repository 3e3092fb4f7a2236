/- Valid elements; spec.fdIn, impl.elementOf, impl.pairOf by contracts. -/
import Derived.Test.YthklnfanbegecacDoorJ
import Derived.Test.YthklnfanbegecacDoorE
namespace Go.Proofs.YthklnfanbegecacDoor
open Go.RowKit
/-- q is a size and a an element of its field. -/
def inE (q a : Int) : Bool := isSz q && (decide (0 ≤ a) && decide (a < q))
theorem inE_yes {q a : Int} (h : inE q a = true) : isSz q = true ∧ 0 ≤ a ∧ a < q := by
  simpa [inE] using h
theorem inE_no {q a : Int} (h : inE q a = false) : isSz q = false ∨ isSz q = true ∧ a < 0 ∨ isSz q = true ∧ 0 ≤ a ∧ q ≤ a := by
  cases hs : isSz q with
  | false => exact .inl rfl
  | true =>
    simp [inE, hs] at h
    by_cases h0 : a < 0
    · exact .inr (.inl ⟨rfl, h0⟩)
    · exact .inr (.inr ⟨rfl, by omega, h (by omega)⟩)

/-- spec.l1In. -/
theorem l1In_any (n lo hi : Int) (w : World) :
    Calls Tryd.prog 26 #[.int .i64 n, .int .i64 lo, .int .i64 hi] w fun e w' => e = .returned (.bool (decide (lo ≤ n) && decide (n ≤ hi))) ∧ w = w' := by
  by_cases h1 : lo ≤ n
  · go_enter Tryd.func26, Tryd.ntmps26
    go_wp2
    all_goals
      go_ret
      exact ⟨ret_bool (by simp [h1]), rfl⟩
  · go_enter Tryd.func26, Tryd.ntmps26
    go_wp2
    all_goals
      go_ret
      exact ⟨ret_bool (by simp; try omega), rfl⟩
/-- impl.field.has. -/
theorem has_yes (q a : Int) (w : World) (a0 : 0 ≤ a) (a1 : a < q) :
    Calls Tryd.prog 32 #[fdE q, .int .i64 a] w fun e w' => e = .returned (.bool true) ∧ Below w.heap.size w w' := by
  go_enter Tryd.func32, Tryd.ntmps32
  go_wp2
  go_ret
  exact ⟨rfl, by (repeat' (first | (with_reducible assumption) | (with_reducible exact Below.refl _ _) | (with_reducible refine below_drewN ?_ _) | (with_reducible refine Below.drew ?_) | (with_reducible refine Below.alloc ?_ ?_ _) | (with_reducible refine Below.setCell ?_ ?_ _) | (with_reducible refine Below.trans ?_ (Below.mono (by assumption) ?_)) | (with_reducible exact Nat.le_refl _) | (with_reducible assumption) | omega | (simp; omega) | (simp; done)))⟩
theorem has_low (q a : Int) (w : World) (a0 : a < 0) :
    Calls Tryd.prog 32 #[fdE q, .int .i64 a] w fun e w' => e = .returned (.bool false) ∧ Below w.heap.size w w' := by
  go_enter Tryd.func32, Tryd.ntmps32
  go_wp2
  go_ret
  exact ⟨rfl, by (repeat' (first | (with_reducible assumption) | (with_reducible exact Below.refl _ _) | (with_reducible refine below_drewN ?_ _) | (with_reducible refine Below.drew ?_) | (with_reducible refine Below.alloc ?_ ?_ _) | (with_reducible refine Below.setCell ?_ ?_ _) | (with_reducible refine Below.trans ?_ (Below.mono (by assumption) ?_)) | (with_reducible exact Nat.le_refl _) | (with_reducible assumption) | omega | (simp; omega) | (simp; done)))⟩
theorem has_high (q a : Int) (w : World) (a0 : 0 ≤ a) (a1 : q ≤ a) :
    Calls Tryd.prog 32 #[fdE q, .int .i64 a] w fun e w' => e = .returned (.bool false) ∧ Below w.heap.size w w' := by
  go_enter Tryd.func32, Tryd.ntmps32
  go_wp2
  go_ret
  exact ⟨ret_bool (by simp; omega), by (repeat' (first | (with_reducible assumption) | (with_reducible exact Below.refl _ _) | (with_reducible refine below_drewN ?_ _) | (with_reducible refine Below.drew ?_) | (with_reducible refine Below.alloc ?_ ?_ _) | (with_reducible refine Below.setCell ?_ ?_ _) | (with_reducible refine Below.trans ?_ (Below.mono (by assumption) ?_)) | (with_reducible exact Nat.le_refl _) | (with_reducible assumption) | omega | (simp; omega) | (simp; done)))⟩

/-- The element of a call that fails. -/
abbrev elZ : Value := .agg #[.int .i64 0, .int .i64 0, .int .i64 0, .int .i64 0, .int .i64 0, .int .i64 0, .int .i64 0]

end Go.Proofs.YthklnfanbegecacDoor
