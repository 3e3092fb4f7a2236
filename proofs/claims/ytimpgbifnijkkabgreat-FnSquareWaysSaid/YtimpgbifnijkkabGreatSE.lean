/- slices.Grow from nothing, slices.Concat of slices of numbers, by contracts. -/
import Derived.Test.YtimpgbifnijkkabGreatSA
import Derived.Test.YtimpgbifnijkkabGreatLV
import Derived.Lib.AppendZerosOnto
import Derived.Lib.AppendZeros
namespace Go.Proofs.YtimpgbifnijkkabGreat
open Go.RowKit
/-- The lists, one behind the other. -/
def cat (F : Nat → List Int) : Nat → List Int
  | 0 => []
  | k + 1 => cat F k ++ F k
theorem cat_len (F : Nat → List Int) (d : Nat) : ∀ k, (∀ i, i < k → (F i).length = d) → (cat F k).length = k * d := by
  intro k
  induction k with
  | zero => intro _; simp [cat]
  | succ k ih =>
    intro h
    show (cat F k ++ F k).length = _
    rw [List.length_append, ih fun i hi => h i (by omega), h k (by omega), Nat.succ_mul]
end Go.Proofs.YtimpgbifnijkkabGreat
