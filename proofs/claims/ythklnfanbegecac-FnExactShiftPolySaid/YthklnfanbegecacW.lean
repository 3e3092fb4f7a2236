/- impl.element.isZero, order; impl.nonzeroOf by contracts. -/
import Derived.Test.YthklnfanbegecacT
import Derived.Test.YthklnfanbegecacL
namespace Go.Proofs.Ythklnfanbegecac
open Go.RowKit
theorem eq_arr (t : TypeId) (ht : Try.prog.underlying t = some (.array 4 3)) (a b c e a' b' c' e' : Int) (d : Nat) (w : World) :
    (Op.equalIn (d + 1 + 1) t (.agg #[.int .i64 a, .int .i64 b, .int .i64 c, .int .i64 e]) (.agg #[.int .i64 a', .int .i64 b', .int .i64 c', .int .i64 e'])).run Try.prog w = .ok (decide (a = a') && (decide (b = b') && (decide (c = c') && decide (e = e')))) w := by
  rw [Op.equalIn]
  have r4 : List.range' 0 4 = [0, 1, 2, 3] := rfl
  simp [run_underlying ht, go_sem, r4, List.forIn_cons, run_equalIn_int _ _ _ _ _ _ _ Try.underlying3]
  by_cases h1 : a = a' <;> by_cases h2 : b = b' <;> by_cases h3 : c = c' <;> by_cases h4 : e = e' <;> simp [h1, h2, h3, h4, go_sem]
theorem eq_arr0 (a b c e : Int) (w : World) : (Op.equalIn 10000 44 (.agg #[.int .i64 a, .int .i64 b, .int .i64 c, .int .i64 e]) (.agg #[.int .i64 0, .int .i64 0, .int .i64 0, .int .i64 0])).run Try.prog w = .ok (decide (a = 0) && (decide (b = 0) && (decide (c = 0) && decide (e = 0)))) w :=
  eq_arr 44 Try.underlying44 a b c e 0 0 0 0 9998 w
theorem eq_elem (q p k a b c e a' b' c' e' : Int) (w : World) : (Op.equalIn 10000 46 (.agg #[.int .i64 q, .int .i64 p, .int .i64 k, .int .i64 a, .int .i64 b, .int .i64 c, .int .i64 e]) (.agg #[.int .i64 q, .int .i64 p, .int .i64 k, .int .i64 a', .int .i64 b', .int .i64 c', .int .i64 e'])).run Try.prog w = .ok (decide (a = a') && (decide (b = b') && (decide (c = c') && decide (e = e')))) w := by
  have hE := fun w => eq_arr 44 Try.underlying44 a b c e a' b' c' e' 9997 w
  simp [go_sem, part, hE]
  by_cases h1 : a = a' <;> by_cases h2 : b = b' <;> by_cases h3 : c = c' <;> by_cases h4 : e = e' <;> simp [h1, h2, h3, h4]

theorem zero_dg (q a : Int) (hq : isSz q = true) (a0 : 0 ≤ a) (a1 : a < q) : (decide (dg q a 0 = 0) && (decide (dg q a 1 = 0) && (decide (dg q a 2 = 0) && decide (dg q a 3 = 0)))) = decide (a = 0) :=
  of_decide_eq_true (of_chk1 (f := fun q a => decide ((decide (dg q a 0 = 0) && (decide (dg q a 1 = 0) && (decide (dg q a 2 = 0) && decide (dg q a 3 = 0)))) = decide (a = 0))) (by decide +kernel) q a hq a0 a1)
set_option maxHeartbeats 400000 in
/-- impl.element.isZero. -/
theorem isZeroE (q a : Int) (w : World) (h : isSz q = true) (a0 : 0 ≤ a) (a1 : a < q) :
    Calls Try.prog 79 #[elE q a] w fun e w' => e = .returned (.bool (decide (a = 0))) ∧ Below w.heap.size w w' := by
  have hz : ∀ w, (Op.equalIn 10000 44 (.agg #[.int .i64 (dg q a 0), .int .i64 (dg q a 1), .int .i64 (dg q a 2), .int .i64 (dg q a 3)]) (.agg #[.int .i64 0, .int .i64 0, .int .i64 0, .int .i64 0])).run Try.prog w = .ok (decide (a = 0)) w :=
    fun w => by rw [← zero_dg q a h a0 a1]; exact eq_arr0 _ _ _ _ w
  have HZ := Lib.hid hz; clear hz
  clear h a0 a1
  go_enter Try.func79, Try.ntmps79
  go_wp2_with (simp only [HZ.out, Result.andThen_ok])
  go_ret
  exact ⟨rfl, by (repeat' (first | (with_reducible assumption) | (with_reducible exact Below.refl _ _) | (with_reducible refine below_drewN ?_ _) | (with_reducible refine Below.drew ?_) | (with_reducible refine Below.alloc ?_ ?_ _) | (with_reducible refine Below.setCell ?_ ?_ _) | (with_reducible refine Below.trans ?_ (Below.mono (by assumption) ?_)) | (with_reducible exact Nat.le_refl _) | (with_reducible assumption) | omega | (simp; omega) | (simp; done)))⟩

/-- q is a size and a an element other than 0. -/
def inN (q a : Int) : Bool := inE q a && !decide (a = 0)
theorem inN_yes {q a : Int} (h : inN q a = true) : inE q a = true ∧ isSz q = true ∧ 0 < a ∧ a < q := by
  simp only [inN, Bool.and_eq_true, Bool.not_eq_true', decide_eq_false_iff_not] at h
  obtain ⟨h1, h2, h3⟩ := inE_yes h.1
  exact ⟨h.1, h1, by omega, h3⟩
end Go.Proofs.Ythklnfanbegecac
