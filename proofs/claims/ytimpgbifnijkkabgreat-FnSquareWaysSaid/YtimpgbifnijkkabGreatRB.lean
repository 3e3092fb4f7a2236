/- Powers of the prime, and the polynomials with terms there alone: impl.field.primePowers, slices.Contains of numbers, impl.poly.isAdditiveFrom, isAdditive, isMoved, impl.validAdditive, by contracts. -/
import Derived.Test.YtimpgbifnijkkabGreatRA
import Derived.Test.YtimpgbifnijkkabGreatKP
import Derived.Test.YtimpgbifnijkkabGreatKL
namespace Go.Proofs.YtimpgbifnijkkabGreat
open Go.RowKit
/-- The powers of the prime, as numbers. -/
def ppf (q : Int) : Nat → Int := fun i => (pp q i : Int)
theorem ppf_succ {q : Int} (h : isSz q = true) (i : Nat) : ppf q i * pr q = ppf q (i + 1) := by
  have hp := pr_bd q h
  show ((pr q).toNat ^ i : Nat) * pr q = (((pr q).toNat ^ (i + 1) : Nat) : Int)
  rw [Nat.pow_succ, Int.natCast_mul, Int.toNat_of_nonneg (by omega)]
theorem ppf_bd {q : Int} (h : isSz q = true) (i : Nat) (hi : i ≤ plN q) : 1 ≤ ppf q i ∧ ppf q i ≤ 16 := by
  have hq := isSz_le q h
  have hc := of_chk1 (f := fun q _ => (List.range (plN q + 1)).all fun i => decide (1 ≤ ppf q i ∧ ppf q i ≤ 16)) (by decide +kernel) q 0 h (by omega) (by omega)
  exact of_decide_eq_true (List.all_eq_true.1 hc i (List.mem_range.2 (by omega)))
theorem ppf_has (q : Int) (j : Nat) : (fl (ppf q) (plN q)).contains (j : Int) = isPw q j := by
  apply bool_ext
  unfold isPw fl
  rw [List.contains_iff_mem, List.mem_map, List.any_eq_true]
  constructor
  · rintro ⟨i, hi, e⟩
    have e' : ((pp q i : Nat) : Int) = (j : Int) := e
    exact ⟨i, hi, beq_iff_eq.2 (by omega)⟩
  · rintro ⟨i, hi, e⟩
    have e' := eq_of_beq e
    exact ⟨i, hi, by show ((pp q i : Nat) : Int) = (j : Int); omega⟩
/-- A list that is an additive polynomial. -/
def addL (q : Int) (l : List Int) : Bool := (isSz q && good q l) && adC q (fun i => l.getD i 0) 0 l.length
end Go.Proofs.YtimpgbifnijkkabGreat
