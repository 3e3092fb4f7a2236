/- What FnSumsByFormulas asks of runs: four times their number is told by characters. -/
import Derived.Test.YtpjlolnnbbgikaaTH
import Derived.Test.YtpjlolnnbbgikaaTK
namespace Go.Proofs.Ytpjlolnnbbgikaa
open Go.RowKit
theorem rns_all {m : Nat} (h : isSz (m : Int) = true) (ho : (m : Int) % 2 = 1) {i j : Int} (hi : sgn i = true) (hj : sgn j = true) : 4 * rns m i j = (m : Int) - 2 - j - i * chi m (subF m 0 1) - i * j := by
  have hk : ∀ m ∈ odds, ∀ i ∈ [(1 : Int), -1], ∀ j ∈ [(1 : Int), -1], 4 * rns m i j = (m : Int) - 2 - j - i * chi m (subF m 0 1) - i * j := by decide +kernel
  have e : ∀ n, sgn n = true → n ∈ [(1 : Int), -1] := fun n hn => by
    simp only [sgn, Bool.or_eq_true, decide_eq_true_eq] at hn
    rcases hn with rfl | rfl <;> decide
  exact hk m (odds_of h ho) i (e i hi) j (e j hj)
end Go.Proofs.Ytpjlolnnbbgikaa
