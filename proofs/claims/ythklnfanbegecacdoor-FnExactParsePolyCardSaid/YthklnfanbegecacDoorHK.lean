/- impl.validPoly, poly.degree, DegreeOf and spec.DegreeOf by contracts. -/
import Derived.Test.YthklnfanbegecacDoorHJ
import Derived.Test.YthklnfanbegecacDoorHE
namespace Go.Proofs.YthklnfanbegecacDoor
open Go.RowKit
/-- A polynomial: its field, its coefficients. -/
abbrev polyE (q : Int) (v : Value) : Value := .agg #[.int .i64 q, .int .i64 (pr q), .int .i64 (pl q), v]
/-- That of a call that fails. -/
abbrev polyZ : Value := .agg #[.int .i64 0, .int .i64 0, .int .i64 0, .slice none 0 0]
theorem good_parts {q : Int} {l : List Int} (h : good q l = true) : (l.length : Int) ≤ q ∧ l.all (inF q) = true := by
  simp only [good, Bool.and_eq_true, decide_eq_true_eq] at h
  exact ⟨h.1, h.2.1⟩

/-- Four stores: a polynomial into its block. -/
abbrev put4 (w : World) (b : Nat) (q : Int) (v : Value) : World := (((w.setCell ⟨b, 0, none⟩ (.int .i64 q)).setCell ⟨b, 1, none⟩ (.int .i64 (pr q))).setCell ⟨b, 2, none⟩ (.int .i64 (pl q))).setCell ⟨b, 3, none⟩ v
theorem put4_other (w : World) (b : Nat) (q : Int) (v : Value) (k : Nat) (h : k ≠ b) : (put4 w b q v).heap[k]? = w.heap[k]? := by
  unfold put4
  iterate 4 rw [heap_setCell_other _ _ _ _ h]
theorem put4_below {B : Nat} {w0 w : World} (hb : Below B w0 w) (b : Nat) (h : B ≤ b) (q : Int) (v : Value) : Below B w0 (put4 w b q v) := by
  unfold put4
  exact (((hb.setCell h _).setCell h _).setCell h _).setCell h _

end Go.Proofs.YthklnfanbegecacDoor
