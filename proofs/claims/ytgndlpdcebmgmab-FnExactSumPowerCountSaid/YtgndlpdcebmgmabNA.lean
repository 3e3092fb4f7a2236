/- Greatest common divisors; closures that tell conditions; PowerPermutes, CountPermutingPowers and DicksonPermutes, of both, by contracts. -/
import Derived.Test.YtgndlpdcebmgmabKG
namespace Go.Proofs.Ytgndlpdcebmgmab
open Go.RowKit
theorem gcd_step (a b : Nat) : Nat.gcd a b = Nat.gcd b (a % b) := by
  rw [Nat.gcd_comm a b, Nat.gcd_rec b a, Nat.gcd_comm]
set_option maxHeartbeats 1000000 in
/-- spec.peGcd. -/
theorem peGcd_any (b a : Nat) (w : World) (ha : a ≤ 70000) (hb : b ≤ 70000) :
    Calls Try.prog 52 #[.int .i64 a, .int .i64 b] w fun e w' => e = .returned (.int .i64 (Nat.gcd a b)) ∧ Below w.heap.size w w' := by
  induction b using Nat.strongRecOn generalizing a w with
  | ind b ih =>
    by_cases h0 : b = 0
    · subst h0
      rw [Nat.gcd_zero_right]
      clear ih
      go_enter Try.func52, Try.ntmps52
      go_wp2
      go_ret
      exact ⟨rfl, Below.refl _ _⟩
    · have hlt : a % b < b := Nat.mod_lt _ (by omega)
      have hrem : (a : Int) % (b : Int) = ((a % b : Nat) : Int) := by omega
      have hne : ((b : Int) == 0) = false := by simpa using h0
      have hpos : (0 : Int) < (b : Int) := by omega
      have HI := Lib.hid (fun w => ih (a % b) hlt b w hb (by omega))
      rw [gcd_step a b]
      clear ih
      generalize a % b = r at *
      generalize Nat.gcd b r = d at *
      go_enter Try.func52, Try.ntmps52
      go_wp2_with fail
      refine (HI.out _).mono ?_
      rintro e w1 ⟨rfl, hb1⟩
      go_wp2
      go_ret
      exact ⟨rfl, hb1⟩
set_option maxHeartbeats 1000000 in
/-- impl.commonDivisor. -/
theorem commonE (a b : Nat) (w : World) (ha : a ≤ 70000) (hb : b ≤ 70000) :
    Calls Try.prog 88 #[.int .i64 a, .int .i64 b] w fun e w' => e = .returned (.int .i64 (Nat.gcd a b)) ∧ Below w.heap.size w w' := by
  generalize hd : Nat.gcd a b = d at *
  have HD := Lib.hid hd; clear hd
  go_enter Try.func88, Try.ntmps88
  go_wp2
  go_loopw [0, 1] (fun va vb wr => ∃ x y : Nat, va = .int .i64 x ∧ vb = .int .i64 y ∧ Nat.gcd x y = d ∧ x ≤ 70000 ∧ y ≤ 70000 ∧ Below w.heap.size w wr) (fun _ vb _ => (intOf vb).toNat)
  case atStart => exact ⟨a, b, rfl, rfl, HD.out, ha, hb, Below.refl _ _⟩
  case round =>
    obtain ⟨x, y, rfl, rfl, hg, hx, hy, hbw⟩ := hrel
    have HB := Lib.hid hbw; clear hbw
    by_cases h0 : y = 0
    · subst h0
      rw [Nat.gcd_zero_right] at hg
      subst hg
      clear HD
      go_wp2
      go_ret
      exact ⟨rfl, HB.out⟩
    · have hlt : x % y < y := Nat.mod_lt _ (by omega)
      have hrem : (x : Int) % (y : Int) = ((x % y : Nat) : Int) := by omega
      have hne : ((y : Int) == 0) = false := by simpa using h0
      have hpos : (0 : Int) < (y : Int) := by omega
      rw [gcd_step x y] at hg
      have HG := Lib.hid hg
      clear hg
      generalize x % y = r at *
      go_wp2
      go_region
      all_goals
        go_wp2
        go_roundw
        case rel => exact ⟨y, r, by first | rfl | go_num, by first | rfl | go_num, HG.out, hy, by omega, by have hb := HB.out; (repeat' (first | (with_reducible assumption) | (with_reducible exact Below.refl _ _) | (with_reducible refine below_drewN ?_ _) | (with_reducible refine Below.drew ?_) | (with_reducible refine Below.alloc ?_ ?_ _) | (with_reducible refine Below.setCell ?_ ?_ _) | (with_reducible refine Below.trans ?_ (Below.mono (by assumption) ?_)) | (with_reducible exact Nat.le_refl _) | (with_reducible assumption) | omega | (simp; omega) | (simp; done)))⟩
        case measure => (simp [intOf]; try omega)
/-- A power that is told. -/
def okE (n : Int) : Bool := decide (0 ≤ n) && decide (n ≤ 400)
theorem okE_nat {n : Int} (h : okE n = true) : ∃ k : Nat, n = (k : Int) ∧ k ≤ 400 := by
  simp only [okE, Bool.and_eq_true, decide_eq_true_eq] at h
  exact ⟨n.toNat, by omega, by omega⟩
/-- At least 1, with no divisor in common but 1. -/
def isOne (d : Nat) : Bool := decide (d = 1)
/-- A number of at least 1 that has no divisor in common with m but 1. -/
def npm (n m : Nat) : Bool := decide (1 ≤ n) && isOne (Nat.gcd n m)
theorem npm_pos {n m : Nat} (h : 1 ≤ n) : npm n m = isOne (Nat.gcd n m) := by simp [npm, h]
theorem npm_zero {m : Nat} : npm 0 m = false := rfl
theorem one_eq (d : Nat) : ((d : Int) == 1) = isOne d := by
  unfold isOne
  by_cases h : d = 1
  · subst h; rfl
  · rw [decide_eq_false h]
    simp
    omega
theorem one_eq' (d : Nat) : decide ((d : Int) = 1) = isOne d := by
  unfold isOne
  by_cases h : d = 1
  · subst h; rfl
  · rw [decide_eq_false h, decide_eq_false (by omega)]
/-- The number with which a power of Dickson's is to have no divisor in common. -/
def dkm (m : Nat) (a : Int) : Nat := if a = 0 then m - 1 else m * m - 1
theorem dkm_le {m : Nat} (h : isSz (m : Int) = true) (a : Int) : dkm m a ≤ 255 := by
  have hq := isSz_le (m : Int) h
  unfold dkm
  split
  · omega
  · have : m * m ≤ 16 * 16 := Nat.mul_le_mul (by omega) (by omega)
    omega
end Go.Proofs.Ytgndlpdcebmgmab
