/- Characters, in memory; CharacterOf, of both, by contracts; the walk of its law. -/
import Derived.Test.YtljijnanmpajaaaGreatNM
import Derived.Laws.Rows
import Derived.Laws.CopyOwn
import Derived.Deep.RegionWith
import Derived.Deep.MidRow
namespace Go.Proofs.YtljijnanmpajaaaGreat
open Go.RowKit
/-- A character. -/
def chi (q a : Int) : Int := if a = 0 then 0 else if nsq q a then 1 else -1
theorem chi_bd (q a : Int) : -1 ≤ chi q a ∧ chi q a ≤ 1 := by
  unfold chi
  split
  · omega
  · split <;> omega
theorem chi_zero (q : Int) : chi q 0 = 0 := rfl
theorem chi_yes {q a : Int} (h0 : a ≠ 0) (h : nsq q a = true) : chi q a = 1 := by unfold chi; rw [if_neg h0, if_pos h]
theorem chi_no {q a : Int} (h0 : a ≠ 0) (h : nsq q a = false) : chi q a = -1 := by unfold chi; rw [if_neg h0, if_neg (by rw [h]; decide)]
/-- The characters of the first n elements. -/
def chN (q : Int) (n : Nat) : Nat → Int := fun i => if i < n then chi q (i : Int) else 0
theorem chN_zero (q : Int) : chN q 0 = fun _ => 0 := funext fun i => if_neg (Nat.not_lt_zero i)
theorem chN_at {q : Int} {n i : Nat} (h : i < n) : chN q n i = chi q (i : Int) := if_pos h
theorem chN_step (q : Int) (n : Nat) : upd (chN q n) n (chi q (n : Int)) = chN q (n + 1) := by
  funext i
  by_cases e : i = n
  · subst e
    rw [upd_at, chN_at (Nat.lt_succ_self _)]
  · rw [upd_ne _ _ _ _ e]
    unfold chN
    by_cases h : i < n
    · rw [if_pos h, if_pos (by omega)]
    · rw [if_neg h, if_neg (by omega)]
theorem chN_same (q : Int) (n : Nat) (h : chi q (n : Int) = 0) : chN q (n + 1) = chN q n := by
  rw [← chN_step, h]
  funext i
  by_cases e : i = n
  · subst e
    rw [upd_at]
    exact (if_neg (Nat.lt_irrefl _)).symm
  · rw [upd_ne _ _ _ _ e]
/-- The cells of characters. -/
def CH (c : Nat → Int) : Array Value := #[.int .i64 (c 0), .int .i64 (c 1), .int .i64 (c 2), .int .i64 (c 3), .int .i64 (c 4), .int .i64 (c 5), .int .i64 (c 6), .int .i64 (c 7), .int .i64 (c 8), .int .i64 (c 9), .int .i64 (c 10), .int .i64 (c 11), .int .i64 (c 12), .int .i64 (c 13), .int .i64 (c 14), .int .i64 (c 15)]
theorem CH_size (c : Nat → Int) : (CH c).size = 16 := rfl
theorem CH_get (c : Nat → Int) (i : Nat) (hi : i < 16) : (CH c)[i]? = some (.int .i64 (c i)) := by
  have hc : i = 0 ∨ i = 1 ∨ i = 2 ∨ i = 3 ∨ i = 4 ∨ i = 5 ∨ i = 6 ∨ i = 7 ∨ i = 8 ∨ i = 9 ∨ i = 10 ∨ i = 11 ∨ i = 12 ∨ i = 13 ∨ i = 14 ∨ i = 15 := by omega
  rcases hc with rfl | rfl | rfl | rfl | rfl | rfl | rfl | rfl | rfl | rfl | rfl | rfl | rfl | rfl | rfl | rfl
  all_goals rfl
theorem CH_set (c : Nat → Int) (i : Nat) (hi : i < 16) (x : Int) : (CH c).setIfInBounds i (.int .i64 x) = CH (upd c i x) := by
  have hc : i = 0 ∨ i = 1 ∨ i = 2 ∨ i = 3 ∨ i = 4 ∨ i = 5 ∨ i = 6 ∨ i = 7 ∨ i = 8 ∨ i = 9 ∨ i = 10 ∨ i = 11 ∨ i = 12 ∨ i = 13 ∨ i = 14 ∨ i = 15 := by omega
  rcases hc with rfl | rfl | rfl | rfl | rfl | rfl | rfl | rfl | rfl | rfl | rfl | rfl | rfl | rfl | rfl | rfl
  all_goals simp [CH, upd]
theorem CH_one (c : Nat → Int) : (CH c).all (·.oneCell') = true := by
  simp [CH, Value.oneCell']
theorem chcells {w : World} {b : Nat} {c : Nat → Int} {T : TypeId} (h : w.heap[b]? = some (.cells (CH c) T (0, 0))) :
    (∀ i, i < 16 → w.cell? ⟨b, i, none⟩ = some (.int .i64 (c i))) ∧ (∀ o, w.frozen? ⟨b, o, none⟩ = false) ∧ b < w.heap.size := by
  refine ⟨fun i hi => ?_, fun o => frozen_of_row w b o _ _ h, (Array.getElem?_eq_some_iff.1 h).1⟩
  rw [cell_of_row w b _ _ _ _ h]
  exact CH_get c i hi
theorem CH_zero : CH (fun _ => 0) = #[.int .i64 0, .int .i64 0, .int .i64 0, .int .i64 0, .int .i64 0, .int .i64 0, .int .i64 0, .int .i64 0, .int .i64 0, .int .i64 0, .int .i64 0, .int .i64 0, .int .i64 0, .int .i64 0, .int .i64 0, .int .i64 0] := rfl
/-- An odd size. -/
def odq (q : Int) : Bool := isSz q && decide (q % 2 = 1)
theorem odq_nat {q : Int} (h : odq q = true) : ∃ m : Nat, q = (m : Int) ∧ isSz (m : Int) = true ∧ (m : Int) % 2 = 1 := by
  simp only [odq, Bool.and_eq_true, decide_eq_true_eq] at h
  obtain ⟨hs, ho⟩ := h
  have hq := isSz_le q hs
  obtain ⟨m, rfl⟩ := Int.eq_ofNat_of_zero_le (show 0 ≤ q by omega)
  exact ⟨m, rfl, hs, ho⟩
/-- An odd size and an element. -/
def ode (q a : Int) : Bool := inE q a && decide (q % 2 = 1)
theorem ode_nat {q a : Int} (h : ode q a = true) : ∃ m : Nat, q = (m : Int) ∧ isSz (m : Int) = true ∧ (m : Int) % 2 = 1 ∧ inE (m : Int) a = true := by
  simp only [ode, Bool.and_eq_true, decide_eq_true_eq] at h
  obtain ⟨ha, ho⟩ := h
  have hs := (inE_yes ha).1
  have hq := isSz_le q hs
  obtain ⟨m, rfl⟩ := Int.eq_ofNat_of_zero_le (show 0 ≤ q by omega)
  exact ⟨m, rfl, hs, ho, ha⟩
theorem ode_odq {q a : Int} (h : odq q = false) : ode q a = false := by
  cases ha : inE q a with
  | false => simp [ode, ha]
  | true =>
    have hs := (inE_yes ha).1
    unfold odq at h
    rw [hs, Bool.true_and] at h
    simp [ode, ha, h]
theorem ode_in {q a : Int} (h : odq q = true) : ode q a = inE q a := by
  simp only [odq, Bool.and_eq_true] at h
  simp [ode, h.2]
end Go.Proofs.YtljijnanmpajaaaGreat
