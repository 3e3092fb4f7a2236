/- Primitive elements: spec.fdPrimitive, impl.element.isPrimitive, impl.field.firstPrimitive by contracts; the walk of the law of the first primitive element. -/
import Derived.Test.YthklnfanbegecacX
namespace Go.Proofs.Ythklnfanbegecac
open Go.RowKit
def chk0 (f : Int → Bool) : Bool := sizes.all f
theorem of_chk0 {f : Int → Bool} (h : chk0 f = true) (q : Int) (hq : isSz q = true) : f q = true := by
  have hm : q ∈ sizes := by simpa [isSz] using hq
  exact List.all_eq_true.1 h q hm
/-- The primitive elements below n. -/
def primTo (q : Int) (n : Nat) : List Int := ((List.range n).filter fun a : Nat => a != 0 && ((ordN q (a : Int) : Int) == q - 1)).map fun a : Nat => (a : Int)
theorem primTo_yes (q : Int) (n : Nat) (h0 : n ≠ 0) (h : ((ordN q (n : Int) : Int) == q - 1) = true) : primTo q (n + 1) = primTo q n ++ [(n : Int)] := by
  simp [primTo, List.range_succ, List.filter_append, h0, h]
theorem primTo_no (q : Int) (n : Nat) (h : ((ordN q (n : Int) : Int) == q - 1) = false) : primTo q (n + 1) = primTo q n := by
  simp [primTo, List.range_succ, List.filter_append, h]
theorem primTo_len (q : Int) (n : Nat) : (primTo q n).length ≤ n := by
  rw [primTo, List.length_map]
  exact Nat.le_trans (List.length_filter_le _ _) (by simp)
/-- The first primitive element. -/
def firstP (q : Int) : Int := if q = 2 then 1 else if q = 7 then 3 else if q = 9 then 4 else 2
set_option maxRecDepth 100000 in
theorem firstP_spec (q : Int) (h : isSz q = true) : (primTo q q.toNat).getD 0 0 = firstP q ∧ 0 < firstP q ∧ firstP q < q ∧ 0 < (primTo q q.toNat).length ∧ (ordN q (firstP q) : Int) = q - 1 :=
  of_decide_eq_true (of_chk0 (f := fun q => decide ((primTo q q.toNat).getD 0 0 = firstP q ∧ 0 < firstP q ∧ firstP q < q ∧ 0 < (primTo q q.toNat).length ∧ (ordN q (firstP q) : Int) = q - 1)) (by decide +kernel) q h)
set_option maxRecDepth 100000 in
theorem firstP_least (q : Int) (h : isSz q = true) (n : Nat) (h1 : 1 ≤ n) (h2 : (n : Int) < firstP q) : ((ordN q (n : Int) : Int) == q - 1) = false := by
  have hl := (firstP_spec q h).2.2.1
  have hc := of_chk1 (f := fun q a => a == 0 || decide (firstP q ≤ a) || !((ordN q a : Int) == q - 1)) (by decide +kernel) q (n : Int) h (by omega) (by omega)
  simp only [Bool.or_eq_true, beq_iff_eq, decide_eq_true_eq, Bool.not_eq_true'] at hc
  rcases hc with (hc | hc) | hc
  · omega
  · omega
  · exact hc

end Go.Proofs.Ythklnfanbegecac
