/- Polynomials that permute, of both: pePermutes, validPermuting; InversePoly; the walk of its law. -/
import Derived.Test.YtimpgbifnijkkabGreatLD
import Derived.Test.YtimpgbifnijkkabGreatLJ
namespace Go.Proofs.YtimpgbifnijkkabGreat
open Go.RowKit
/-- A polynomial that permutes. -/
def prm (q : Int) (l : List Int) : Bool := (isSz q && good q l) && dis (tabF q (fun i => l.getD i 0) l.length) q.toNat
theorem prm_nat {m : Nat} {l : List Int} (h : prm (m : Int) l = true) : isSz (m : Int) = true ∧ good (m : Int) l = true ∧ dis (tabF (m : Int) (fun i => l.getD i 0) l.length) m = true := by
  simpa [prm, Bool.and_eq_true, and_assoc] using h
theorem prm_size {q : Int} {l : List Int} (h : prm q l = true) : ∃ m : Nat, q = (m : Int) := by
  have h1 : isSz q = true := by
    simp only [prm, Bool.and_eq_true] at h
    exact h.1.1
  have := isSz_le q h1
  exact Int.eq_ofNat_of_zero_le (by omega)
end Go.Proofs.YtimpgbifnijkkabGreat
