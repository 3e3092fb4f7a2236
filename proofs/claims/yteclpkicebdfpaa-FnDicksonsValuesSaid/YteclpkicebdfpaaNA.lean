/- Greatest common divisors; closures that tell conditions; PowerPermutes, CountPermutingPowers and DicksonPermutes, of both, by contracts. -/
import Derived.Test.YteclpkicebdfpaaKG
namespace Go.Proofs.Yteclpkicebdfpaa
open Go.RowKit
theorem gcd_step (a b : Nat) : Nat.gcd a b = Nat.gcd b (a % b) := by
  rw [Nat.gcd_comm a b, Nat.gcd_rec b a, Nat.gcd_comm]
/-- A power that is told. -/
def okE (n : Int) : Bool := decide (0 ≤ n) && decide (n ≤ 400)
theorem okE_nat {n : Int} (h : okE n = true) : ∃ k : Nat, n = (k : Int) ∧ k ≤ 400 := by
  simp only [okE, Bool.and_eq_true, decide_eq_true_eq] at h
  exact ⟨n.toNat, by omega, by omega⟩
/-- spec.kdAsked. -/
theorem kdAsked_any (q n : Int) (w : World) :
    Calls Try.prog 48 #[.int .i64 q, .int .i64 n] w fun e w' => e = .returned (.bool (isSz q && okE n)) ∧ Below w.heap.size w w' := by
  cases h : isSz q with
  | false =>
    go_enter Try.func48, Try.ntmps48
    go_wp2_with fail
    refine (fdSize_any _ _).mono ?_
    rintro e w1 ⟨rfl, hb1⟩
    rw [h]
    go_wp2
    go_ret
    exact ⟨rfl, hb1⟩
  | true =>
    go_enter Try.func48, Try.ntmps48
    go_wp2_with fail
    refine (fdSize_any _ _).mono ?_
    rintro e w1 ⟨rfl, hb1⟩
    rw [h]
    go_wp2_with fail
    refine (l1In_any _ _ _ _).mono ?_
    rintro e w2 ⟨rfl, rfl⟩
    go_wp2
    go_ret
    exact ⟨rfl, hb1⟩
/-- impl.isExponent. -/
theorem isExponentE (n : Int) (w : World) :
    Calls Try.prog 42 #[.int .i64 n] w fun e w' => e = .returned (.bool (okE n)) ∧ Below w.heap.size w w' := by
  by_cases h0 : 0 ≤ n
  · have e0 : okE n = decide (n ≤ 400) := by simp [okE, h0]
    rw [e0]
    go_enter Try.func42, Try.ntmps42
    go_wp2
    go_ret
    exact ⟨rfl, Below.refl _ _⟩
  · have e0 : okE n = false := by simp [okE, h0]
    rw [e0]
    go_enter Try.func42, Try.ntmps42
    go_wp2
    go_ret
    exact ⟨rfl, Below.refl _ _⟩
/-- At least 1, with no divisor in common but 1. -/
def isOne (d : Nat) : Bool := decide (d = 1)
/-- A number of at least 1 that has no divisor in common with m but 1. -/
def npm (n m : Nat) : Bool := decide (1 ≤ n) && isOne (Nat.gcd n m)
theorem npm_pos {n m : Nat} (h : 1 ≤ n) : npm n m = isOne (Nat.gcd n m) := by simp [npm, h]
theorem npm_zero {m : Nat} : npm 0 m = false := rfl
theorem one_eq (d : Nat) : ((d : Int) == 1) = isOne d := by
  unfold isOne
  by_cases h : d = 1
  · subst h; rfl
  · rw [decide_eq_false h]
    simp
    omega
theorem one_eq' (d : Nat) : decide ((d : Int) = 1) = isOne d := by
  unfold isOne
  by_cases h : d = 1
  · subst h; rfl
  · rw [decide_eq_false h, decide_eq_false (by omega)]
/-- The number with which a power of Dickson's is to have no divisor in common. -/
def dkm (m : Nat) (a : Int) : Nat := if a = 0 then m - 1 else m * m - 1
theorem dkm_le {m : Nat} (h : isSz (m : Int) = true) (a : Int) : dkm m a ≤ 255 := by
  have hq := isSz_le (m : Int) h
  unfold dkm
  split
  · omega
  · have : m * m ≤ 16 * 16 := Nat.mul_le_mul (by omega) (by omega)
    omega
end Go.Proofs.Yteclpkicebdfpaa
