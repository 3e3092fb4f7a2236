/- PowerPermutes, DicksonPermutes, CountPermutingPowers and DicksonAt, of both, by contracts; the walks of their laws. -/
import Derived.Test.YteclpkicebdfpaaNA
namespace Go.Proofs.Yteclpkicebdfpaa
open Go.RowKit
theorem ret_bb {a b o p : Bool} (h : a = b) (h2 : o = p) : Ending.returned (.tuple #[.bool a, .bool o]) = .returned (.tuple #[.bool b, .bool p]) := by rw [h, h2]
theorem okE_of {k : Nat} (h : k ≤ 400) : okE (k : Int) = true := by
  simp only [okE, Bool.and_eq_true, decide_eq_true_eq]
  omega
theorem size_nat {q : Int} (h : isSz q = true) : ∃ m : Nat, q = (m : Int) := ⟨q.toNat, by have := isSz_le q h; omega⟩
theorem asked_yes (m k : Nat) (w : World) (h : isSz (m : Int) = true) (hk : k ≤ 400) :
    Calls Try.prog 48 #[.int .i64 m, .int .i64 k] w fun e w' => e = .returned (.bool true) ∧ Below w.heap.size w w' := by
  have := kdAsked_any (m : Int) (k : Int) w
  rw [h, okE_of hk] at this
  exact this
theorem asked_no (q n : Int) (w : World) (h : (isSz q && okE n) = false) :
    Calls Try.prog 48 #[.int .i64 q, .int .i64 n] w fun e w' => e = .returned (.bool false) ∧ Below w.heap.size w w' := by
  have := kdAsked_any q n w
  rw [h] at this
  exact this
theorem isExp_yes (k : Nat) (w : World) (hk : k ≤ 400) :
    Calls Try.prog 42 #[.int .i64 k] w fun e w' => e = .returned (.bool true) ∧ Below w.heap.size w w' := by
  have := isExponentE (k : Int) w
  rw [okE_of hk] at this
  exact this
theorem asked_nat {q n : Int} (h : (isSz q && okE n) = true) : ∃ m k : Nat, q = (m : Int) ∧ n = (k : Int) ∧ isSz (m : Int) = true ∧ k ≤ 400 := by
  rw [Bool.and_eq_true] at h
  obtain ⟨m, rfl⟩ := size_nat h.1
  obtain ⟨k, rfl, hk⟩ := okE_nat h.2
  exact ⟨m, k, rfl, rfl, h.1, hk⟩
/-- How many of 1..k have no divisor in common with r. -/
def cpc (r : Nat) : Nat → Nat
  | 0 => 0
  | k + 1 => cpc r k + if npm (k + 1) r then 1 else 0
theorem cpc_le (r : Nat) : ∀ k, cpc r k ≤ k
  | 0 => Nat.le_refl _
  | k + 1 => by
    have := cpc_le r k
    rw [cpc]
    split <;> omega
theorem cpc_yes {r k : Nat} (h : npm (k + 1) r = true) : cpc r (k + 1) = cpc r k + 1 := by rw [cpc, if_pos h]
theorem cpc_no {r k : Nat} (h : npm (k + 1) r = false) : cpc r (k + 1) = cpc r k := by rw [cpc, if_neg (by rw [h]; decide), Nat.add_zero]
theorem inE_nat {q a : Int} (h : inE q a = true) : ∃ m : Nat, q = (m : Int) ∧ isSz (m : Int) = true ∧ El (m : Int) a := by
  obtain ⟨hs, a0, a1⟩ := inE_yes h
  obtain ⟨m, rfl⟩ := size_nat hs
  exact ⟨m, rfl, hs, a0, a1⟩
/-- What the first answer is, where nothing is told. -/
theorem inE_only {q n a : Int} (h : ((isSz q && okE n) && inE q a) = false) (ha : inE q a = true) : okE n = false := by
  rw [ha, Bool.and_true, (inE_yes ha).1, Bool.true_and] at h
  exact h
theorem asked2_nat {q n a : Int} (h : ((isSz q && okE n) && inE q a) = true) : ∃ m k : Nat, q = (m : Int) ∧ n = (k : Int) ∧ inE (m : Int) a = true ∧ k ≤ 400 := by
  rw [Bool.and_eq_true] at h
  obtain ⟨m, k, rfl, rfl, _, hk⟩ := asked_nat h.1
  exact ⟨m, k, rfl, rfl, h.2, hk⟩
end Go.Proofs.Yteclpkicebdfpaa
