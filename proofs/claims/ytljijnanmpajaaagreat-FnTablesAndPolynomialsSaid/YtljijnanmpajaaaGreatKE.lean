/- A bundle of texts: I J K L. -/
import Derived.Deep.RegionWith
import Derived.Test.YtljijnanmpajaaaGreatKD
import Derived.Test.YtljijnanmpajaaaGreatKA
import Derived.Test.YtljijnanmpajaaaGreatKC
namespace Go.Proofs.YtljijnanmpajaaaGreat
open Go.RowKit
/-- An element by its number. -/
def elV (q a : Int) : Value := elD q (pr q) (pl q) (dg q a 0) (dg q a 1) (dg q a 2) (dg q a 3)
/-- A field. -/
def fdV (q : Int) : Value := .agg #[.int .i64 q, .int .i64 (pr q), .int .i64 (pl q)]
theorem elV_one (q a : Int) (h : plN q = 1) (hp : pr q = q) (a0 : 0 ≤ a) (a1 : a < q) : elV q a = elD q q 1 a 0 0 0 := by
  simp [elV, elD, dg, digs, h, pl, hp, Int.emod_eq_of_lt a0 a1]
theorem elV_4 (a : Int) : elV 4 a = elD 4 2 2 (a % 2) (a / 2 % 2) 0 0 := by simp [elV, elD, dg, digs, plN, pl, pr]
theorem elV_8 (a : Int) : elV 8 a = elD 8 2 3 (a % 2) (a / 2 % 2) (a / 2 / 2 % 2) 0 := by simp [elV, elD, dg, digs, plN, pl, pr]
theorem elV_9 (a : Int) : elV 9 a = elD 9 3 2 (a % 3) (a / 3 % 3) 0 0 := by simp [elV, elD, dg, digs, plN, pl, pr]
theorem elV_16 (a : Int) : elV 16 a = elD 16 2 4 (a % 2) (a / 2 % 2) (a / 2 / 2 % 2) (a / 2 / 2 / 2 % 2) := by simp [elV, elD, dg, digs, plN, pl, pr]
theorem five (q : Int) (h : isSz q = true) : (plN q = 1 ∧ pr q = q ∧ 2 ≤ q ∧ q ≤ 13 ∧ q ≠ 4 ∧ q ≠ 8 ∧ q ≠ 9 ∧ q ≠ 16) ∨ q = 4 ∨ q = 8 ∨ q = 9 ∨ q = 16 := by
  rcases sz_split q h with rfl | rfl | rfl | rfl | rfl | rfl | rfl | rfl | rfl | rfl <;> decide

set_option maxHeartbeats 1000000 in
/-- impl.field.element. -/
theorem element_any (q a : Int) (w : World) (h : isSz q = true) (a0 : 0 ≤ a) (a1 : a < q) :
    Calls Tryz.prog 94 #[fdV q, .int .i64 a] w fun e w' => e = .returned (elV q a) ∧ Below w.heap.size w w' := by
  rcases five q h with ⟨hk, hp, q2, q13, _⟩ | rfl | rfl | rfl | rfl
  · have e1 := elV_one q a hk hp a0 a1
    have e2 : fdV q = .agg #[.int .i64 q, .int .i64 q, .int .i64 1] := by simp [fdV, pl, hk, hp]
    rw [e1, e2]
    have em : a % q = a := Int.emod_eq_of_lt a0 a1
    have ed : a / q = 0 := Int.ediv_eq_zero_of_lt a0 a1
    clear e1 e2 h hk hp
    go_enter Tryz.func94, Tryz.ntmps94
    go_wp2
    (refine wp_loop_rounds 5 ?_; repeat any_goals (rw [rounds_succ]; go_wp2))
    go_wp2
    (refine bodyPost_ret (by simp [results, Tryz.results94, go_sem]; try rfl) rfl ?_)
    exact ⟨rfl, by (repeat' (first | (with_reducible assumption) | (with_reducible exact Below.refl _ _) | (with_reducible refine below_drewN ?_ _) | (with_reducible refine Below.drew ?_) | (with_reducible refine Below.alloc ?_ ?_ _) | (with_reducible refine Below.setCell ?_ ?_ _) | (with_reducible refine Below.trans ?_ (Below.mono (by assumption) ?_)) | (with_reducible exact Nat.le_refl _) | (with_reducible assumption) | omega | (simp; omega) | (simp; done)))⟩
  · rw [elV_4, show fdV 4 = .agg #[.int .i64 4, .int .i64 2, .int .i64 2] from by simp [fdV, pl, plN, pr]]
    clear h
    go_enter Tryz.func94, Tryz.ntmps94
    go_wp2
    (refine wp_loop_rounds 5 ?_; repeat any_goals (rw [rounds_succ]; go_wp2))
    go_wp2
    (refine bodyPost_ret (by simp [results, Tryz.results94, go_sem]; try rfl) rfl ?_)
    exact ⟨rfl, by (repeat' (first | (with_reducible assumption) | (with_reducible exact Below.refl _ _) | (with_reducible refine below_drewN ?_ _) | (with_reducible refine Below.drew ?_) | (with_reducible refine Below.alloc ?_ ?_ _) | (with_reducible refine Below.setCell ?_ ?_ _) | (with_reducible refine Below.trans ?_ (Below.mono (by assumption) ?_)) | (with_reducible exact Nat.le_refl _) | (with_reducible assumption) | omega | (simp; omega) | (simp; done)))⟩
  · rw [elV_8, show fdV 8 = .agg #[.int .i64 8, .int .i64 2, .int .i64 3] from by simp [fdV, pl, plN, pr]]
    clear h
    go_enter Tryz.func94, Tryz.ntmps94
    go_wp2
    (refine wp_loop_rounds 5 ?_; repeat any_goals (rw [rounds_succ]; go_wp2))
    go_wp2
    (refine bodyPost_ret (by simp [results, Tryz.results94, go_sem]; try rfl) rfl ?_)
    exact ⟨rfl, by (repeat' (first | (with_reducible assumption) | (with_reducible exact Below.refl _ _) | (with_reducible refine below_drewN ?_ _) | (with_reducible refine Below.drew ?_) | (with_reducible refine Below.alloc ?_ ?_ _) | (with_reducible refine Below.setCell ?_ ?_ _) | (with_reducible refine Below.trans ?_ (Below.mono (by assumption) ?_)) | (with_reducible exact Nat.le_refl _) | (with_reducible assumption) | omega | (simp; omega) | (simp; done)))⟩
  · rw [elV_9, show fdV 9 = .agg #[.int .i64 9, .int .i64 3, .int .i64 2] from by simp [fdV, pl, plN, pr]]
    clear h
    go_enter Tryz.func94, Tryz.ntmps94
    go_wp2
    (refine wp_loop_rounds 5 ?_; repeat any_goals (rw [rounds_succ]; go_wp2))
    go_wp2
    (refine bodyPost_ret (by simp [results, Tryz.results94, go_sem]; try rfl) rfl ?_)
    exact ⟨rfl, by (repeat' (first | (with_reducible assumption) | (with_reducible exact Below.refl _ _) | (with_reducible refine below_drewN ?_ _) | (with_reducible refine Below.drew ?_) | (with_reducible refine Below.alloc ?_ ?_ _) | (with_reducible refine Below.setCell ?_ ?_ _) | (with_reducible refine Below.trans ?_ (Below.mono (by assumption) ?_)) | (with_reducible exact Nat.le_refl _) | (with_reducible assumption) | omega | (simp; omega) | (simp; done)))⟩
  · rw [elV_16, show fdV 16 = .agg #[.int .i64 16, .int .i64 2, .int .i64 4] from by simp [fdV, pl, plN, pr]]
    clear h
    go_enter Tryz.func94, Tryz.ntmps94
    go_wp2
    (refine wp_loop_rounds 5 ?_; repeat any_goals (rw [rounds_succ]; go_wp2))
    go_wp2
    (refine bodyPost_ret (by simp [results, Tryz.results94, go_sem]; try rfl) rfl ?_)
    exact ⟨rfl, by (repeat' (first | (with_reducible assumption) | (with_reducible exact Below.refl _ _) | (with_reducible refine below_drewN ?_ _) | (with_reducible refine Below.drew ?_) | (with_reducible refine Below.alloc ?_ ?_ _) | (with_reducible refine Below.setCell ?_ ?_ _) | (with_reducible refine Below.trans ?_ (Below.mono (by assumption) ?_)) | (with_reducible exact Nat.le_refl _) | (with_reducible assumption) | omega | (simp; omega) | (simp; done)))⟩

set_option maxHeartbeats 1000000 in
/-- impl.element.number. -/
theorem number_any (q a : Int) (w : World) (h : isSz q = true) (a0 : 0 ≤ a) (a1 : a < q) :
    Calls Tryz.prog 86 #[elV q a] w fun e w' => e = .returned (.int .i64 a) ∧ Below w.heap.size w w' := by
  rcases five q h with ⟨hk, hp, q2, q13, _⟩ | rfl | rfl | rfl | rfl
  · rw [elV_one q a hk hp a0 a1]
    clear h hk hp
    go_enter Tryz.func86, Tryz.ntmps86
    go_wp2
    refine wp_loop_rounds 5 ?_
    rw [rounds_succ]
    go_wp2
    go_quiet (fail)
    go_wp2
    rw [rounds_succ]
    go_wp2
    go_ret
    exact ⟨ret_int (by omega), by (repeat' (first | (with_reducible assumption) | (with_reducible exact Below.refl _ _) | (with_reducible refine below_drewN ?_ _) | (with_reducible refine Below.drew ?_) | (with_reducible refine Below.alloc ?_ ?_ _) | (with_reducible refine Below.setCell ?_ ?_ _) | (with_reducible refine Below.trans ?_ (Below.mono (by assumption) ?_)) | (with_reducible exact Nat.le_refl _) | (with_reducible assumption) | omega | (simp; omega) | (simp; done)))⟩
  · rw [elV_4]
    clear h
    go_enter Tryz.func86, Tryz.ntmps86
    go_wp2
    refine wp_loop_rounds 5 ?_
    iterate 2
      rw [rounds_succ]
      go_wp2
      go_quiet (fail)
      go_wp2
    rw [rounds_succ]
    go_wp2
    go_ret
    exact ⟨ret_int (by omega), by (repeat' (first | (with_reducible assumption) | (with_reducible exact Below.refl _ _) | (with_reducible refine below_drewN ?_ _) | (with_reducible refine Below.drew ?_) | (with_reducible refine Below.alloc ?_ ?_ _) | (with_reducible refine Below.setCell ?_ ?_ _) | (with_reducible refine Below.trans ?_ (Below.mono (by assumption) ?_)) | (with_reducible exact Nat.le_refl _) | (with_reducible assumption) | omega | (simp; omega) | (simp; done)))⟩
  · rw [elV_8]
    clear h
    go_enter Tryz.func86, Tryz.ntmps86
    go_wp2
    refine wp_loop_rounds 5 ?_
    iterate 3
      rw [rounds_succ]
      go_wp2
      go_quiet (fail)
      go_wp2
    rw [rounds_succ]
    go_wp2
    go_ret
    exact ⟨ret_int (by omega), by (repeat' (first | (with_reducible assumption) | (with_reducible exact Below.refl _ _) | (with_reducible refine below_drewN ?_ _) | (with_reducible refine Below.drew ?_) | (with_reducible refine Below.alloc ?_ ?_ _) | (with_reducible refine Below.setCell ?_ ?_ _) | (with_reducible refine Below.trans ?_ (Below.mono (by assumption) ?_)) | (with_reducible exact Nat.le_refl _) | (with_reducible assumption) | omega | (simp; omega) | (simp; done)))⟩
  · rw [elV_9]
    clear h
    go_enter Tryz.func86, Tryz.ntmps86
    go_wp2
    refine wp_loop_rounds 5 ?_
    iterate 2
      rw [rounds_succ]
      go_wp2
      go_quiet (fail)
      go_wp2
    rw [rounds_succ]
    go_wp2
    go_ret
    exact ⟨ret_int (by omega), by (repeat' (first | (with_reducible assumption) | (with_reducible exact Below.refl _ _) | (with_reducible refine below_drewN ?_ _) | (with_reducible refine Below.drew ?_) | (with_reducible refine Below.alloc ?_ ?_ _) | (with_reducible refine Below.setCell ?_ ?_ _) | (with_reducible refine Below.trans ?_ (Below.mono (by assumption) ?_)) | (with_reducible exact Nat.le_refl _) | (with_reducible assumption) | omega | (simp; omega) | (simp; done)))⟩
  · rw [elV_16]
    clear h
    go_enter Tryz.func86, Tryz.ntmps86
    go_wp2
    refine wp_loop_rounds 5 ?_
    iterate 4
      rw [rounds_succ]
      go_wp2
      go_quiet (fail)
      go_wp2
    rw [rounds_succ]
    go_wp2
    go_ret
    exact ⟨ret_int (by omega), by (repeat' (first | (with_reducible assumption) | (with_reducible exact Below.refl _ _) | (with_reducible refine below_drewN ?_ _) | (with_reducible refine Below.drew ?_) | (with_reducible refine Below.alloc ?_ ?_ _) | (with_reducible refine Below.setCell ?_ ?_ _) | (with_reducible refine Below.trans ?_ (Below.mono (by assumption) ?_)) | (with_reducible exact Nat.le_refl _) | (with_reducible assumption) | omega | (simp; omega) | (simp; done)))⟩

/-- impl.field.modulus. -/
theorem modulus_one (q : Int) (w : World) (t4 : (q == 4) = false) (t8 : (q == 8) = false) (t9 : (q == 9) = false) (t16 : (q == 16) = false) :
    Calls Tryz.prog 215 #[.agg #[.int .i64 q, .int .i64 q, .int .i64 1]] w fun e w' => e = .returned (.agg #[.int .i64 0, .int .i64 1, .int .i64 0, .int .i64 0, .int .i64 0]) ∧
      (w.alloc (.cells #[.int .i64 q, .int .i64 q, .int .i64 1] 57)).alloc (.cells #[.int .i64 0, .int .i64 1, .int .i64 0, .int .i64 0, .int .i64 0] 142) = w' := by
  go_enter Tryz.func215, Tryz.ntmps215
  go_wp2
  (refine bodyPost_ret (by simp [results, Tryz.results215, go_sem]; try rfl) rfl ?_)
  exact ⟨rfl, rfl⟩
theorem modulus_4 (w : World) :
    Calls Tryz.prog 215 #[.agg #[.int .i64 4, .int .i64 2, .int .i64 2]] w fun e w' => e = .returned (.agg #[.int .i64 1, .int .i64 1, .int .i64 1, .int .i64 0, .int .i64 0]) ∧
      (w.alloc (.cells #[.int .i64 4, .int .i64 2, .int .i64 2] 57)).alloc (.cells #[.int .i64 1, .int .i64 1, .int .i64 1, .int .i64 0, .int .i64 0] 142) = w' := by
  go_enter Tryz.func215, Tryz.ntmps215
  go_wp2
  (refine bodyPost_ret (by simp [results, Tryz.results215, go_sem]; try rfl) rfl ?_)
  exact ⟨rfl, rfl⟩
theorem modulus_8 (w : World) :
    Calls Tryz.prog 215 #[.agg #[.int .i64 8, .int .i64 2, .int .i64 3]] w fun e w' => e = .returned (.agg #[.int .i64 1, .int .i64 1, .int .i64 0, .int .i64 1, .int .i64 0]) ∧
      (w.alloc (.cells #[.int .i64 8, .int .i64 2, .int .i64 3] 57)).alloc (.cells #[.int .i64 1, .int .i64 1, .int .i64 0, .int .i64 1, .int .i64 0] 142) = w' := by
  go_enter Tryz.func215, Tryz.ntmps215
  go_wp2
  (refine bodyPost_ret (by simp [results, Tryz.results215, go_sem]; try rfl) rfl ?_)
  exact ⟨rfl, rfl⟩
theorem modulus_9 (w : World) :
    Calls Tryz.prog 215 #[.agg #[.int .i64 9, .int .i64 3, .int .i64 2]] w fun e w' => e = .returned (.agg #[.int .i64 1, .int .i64 0, .int .i64 1, .int .i64 0, .int .i64 0]) ∧
      (w.alloc (.cells #[.int .i64 9, .int .i64 3, .int .i64 2] 57)).alloc (.cells #[.int .i64 1, .int .i64 0, .int .i64 1, .int .i64 0, .int .i64 0] 142) = w' := by
  go_enter Tryz.func215, Tryz.ntmps215
  go_wp2
  (refine bodyPost_ret (by simp [results, Tryz.results215, go_sem]; try rfl) rfl ?_)
  exact ⟨rfl, rfl⟩
theorem modulus_16 (w : World) :
    Calls Tryz.prog 215 #[.agg #[.int .i64 16, .int .i64 2, .int .i64 4]] w fun e w' => e = .returned (.agg #[.int .i64 1, .int .i64 1, .int .i64 0, .int .i64 0, .int .i64 1]) ∧
      (w.alloc (.cells #[.int .i64 16, .int .i64 2, .int .i64 4] 57)).alloc (.cells #[.int .i64 1, .int .i64 1, .int .i64 0, .int .i64 0, .int .i64 1] 142) = w' := by
  go_enter Tryz.func215, Tryz.ntmps215
  go_wp2
  (refine bodyPost_ret (by simp [results, Tryz.results215, go_sem]; try rfl) rfl ?_)
  exact ⟨rfl, rfl⟩

set_option maxHeartbeats 1000000 in
/-- impl.element.timesX. -/
theorem timesX_any (q a : Int) (w : World) (h : isSz q = true) (a0 : 0 ≤ a) (a1 : a < q) :
    Calls Tryz.prog 204 #[elV q a] w fun e w' => e = .returned (elV q (tXF q a)) ∧ Below w.heap.size w w' := by
  rcases five q h with ⟨hk, hp, q2, q13, n4, n8, n9, n16⟩ | rfl | rfl | rfl | rfl
  · have e0 : elV q (tXF q a) = elD q q 1 0 0 0 0 := by
      rw [show tXF q a = 0 from by simp [tXF, hk]]
      exact elV_one q 0 hk hp (Int.le_refl _) (by omega)
    rw [elV_one q a hk hp a0 a1, e0]
    have t4 : (q == 4) = false := by simp [n4]
    have t8 : (q == 8) = false := by simp [n8]
    have t9 : (q == 9) = false := by simp [n9]
    have t16 : (q == 16) = false := by simp [n16]
    have m0 : 0 ≤ a * q := Int.mul_nonneg a0 (by omega)
    have m1 : a * q ≤ 13 * 13 := Int.mul_le_mul (by omega) q13 (by omega) (by omega)
    have mm : a * q % q = 0 := Int.mul_emod_left a q
    clear e0 h hk hp n4 n8 n9 n16
    go_enter Tryz.func204, Tryz.ntmps204
    go_wp2
    go_quiet (fail)
    go_wp2_with (go_at_call 215; refine (modulus_one q _ t4 t8 t9 t16).mono ?_; rintro e w1 ⟨rfl, rfl⟩)
    (refine wp_loop_rounds 2 ?_; repeat any_goals (rw [rounds_succ]; go_wp2))
    go_wp2
    (refine bodyPost_ret (by simp [results, Tryz.results204, go_sem]; try rfl) rfl ?_)
    exact ⟨by simp [elD], by (repeat' (first | (with_reducible assumption) | (with_reducible exact Below.refl _ _) | (with_reducible refine below_drewN ?_ _) | (with_reducible refine Below.drew ?_) | (with_reducible refine Below.alloc ?_ ?_ _) | (with_reducible refine Below.setCell ?_ ?_ _) | (with_reducible refine Below.trans ?_ (Below.mono (by assumption) ?_)) | (with_reducible exact Nat.le_refl _) | (with_reducible assumption) | omega | (simp; omega) | (simp; done)))⟩
  · rw [elV_4 a]
    clear h
    go_enter Tryz.func204, Tryz.ntmps204
    go_wp2
    go_quiet (fail)
    go_wp2_with (go_at_call 215; refine (modulus_4 _).mono ?_; rintro e w1 ⟨rfl, rfl⟩)
    (refine wp_loop_rounds 5 ?_; repeat any_goals (rw [rounds_succ]; go_wp2))
    go_wp2
    (refine bodyPost_ret (by simp [results, Tryz.results204, go_sem]; try rfl) rfl ?_)
    refine ⟨?_, by (repeat' (first | (with_reducible assumption) | (with_reducible exact Below.refl _ _) | (with_reducible refine below_drewN ?_ _) | (with_reducible refine Below.drew ?_) | (with_reducible refine Below.alloc ?_ ?_ _) | (with_reducible refine Below.setCell ?_ ?_ _) | (with_reducible refine Below.trans ?_ (Below.mono (by assumption) ?_)) | (with_reducible exact Nat.le_refl _) | (with_reducible assumption) | omega | (simp; omega) | (simp; done)))⟩
    have hs : a = 0 ∨ a = 1 ∨ a = 2 ∨ a = 3 := by omega
    rcases hs with rfl | rfl | rfl | rfl <;> rfl
  · rw [elV_8 a]
    clear h
    go_enter Tryz.func204, Tryz.ntmps204
    go_wp2
    go_quiet (fail)
    go_wp2_with (go_at_call 215; refine (modulus_8 _).mono ?_; rintro e w1 ⟨rfl, rfl⟩)
    (refine wp_loop_rounds 5 ?_; repeat any_goals (rw [rounds_succ]; go_wp2))
    go_wp2
    (refine bodyPost_ret (by simp [results, Tryz.results204, go_sem]; try rfl) rfl ?_)
    refine ⟨?_, by (repeat' (first | (with_reducible assumption) | (with_reducible exact Below.refl _ _) | (with_reducible refine below_drewN ?_ _) | (with_reducible refine Below.drew ?_) | (with_reducible refine Below.alloc ?_ ?_ _) | (with_reducible refine Below.setCell ?_ ?_ _) | (with_reducible refine Below.trans ?_ (Below.mono (by assumption) ?_)) | (with_reducible exact Nat.le_refl _) | (with_reducible assumption) | omega | (simp; omega) | (simp; done)))⟩
    have hs : a = 0 ∨ a = 1 ∨ a = 2 ∨ a = 3 ∨ a = 4 ∨ a = 5 ∨ a = 6 ∨ a = 7 := by omega
    rcases hs with rfl | rfl | rfl | rfl | rfl | rfl | rfl | rfl <;> rfl
  · rw [elV_9 a]
    clear h
    go_enter Tryz.func204, Tryz.ntmps204
    go_wp2
    go_quiet (fail)
    go_wp2_with (go_at_call 215; refine (modulus_9 _).mono ?_; rintro e w1 ⟨rfl, rfl⟩)
    (refine wp_loop_rounds 5 ?_; repeat any_goals (rw [rounds_succ]; go_wp2))
    go_wp2
    (refine bodyPost_ret (by simp [results, Tryz.results204, go_sem]; try rfl) rfl ?_)
    refine ⟨?_, by (repeat' (first | (with_reducible assumption) | (with_reducible exact Below.refl _ _) | (with_reducible refine below_drewN ?_ _) | (with_reducible refine Below.drew ?_) | (with_reducible refine Below.alloc ?_ ?_ _) | (with_reducible refine Below.setCell ?_ ?_ _) | (with_reducible refine Below.trans ?_ (Below.mono (by assumption) ?_)) | (with_reducible exact Nat.le_refl _) | (with_reducible assumption) | omega | (simp; omega) | (simp; done)))⟩
    have hs : a = 0 ∨ a = 1 ∨ a = 2 ∨ a = 3 ∨ a = 4 ∨ a = 5 ∨ a = 6 ∨ a = 7 ∨ a = 8 := by omega
    rcases hs with rfl | rfl | rfl | rfl | rfl | rfl | rfl | rfl | rfl <;> rfl
  · rw [elV_16 a]
    clear h
    go_enter Tryz.func204, Tryz.ntmps204
    go_wp2
    go_quiet (fail)
    go_wp2_with (go_at_call 215; refine (modulus_16 _).mono ?_; rintro e w1 ⟨rfl, rfl⟩)
    (refine wp_loop_rounds 5 ?_; repeat any_goals (rw [rounds_succ]; go_wp2))
    go_wp2
    (refine bodyPost_ret (by simp [results, Tryz.results204, go_sem]; try rfl) rfl ?_)
    refine ⟨?_, by (repeat' (first | (with_reducible assumption) | (with_reducible exact Below.refl _ _) | (with_reducible refine below_drewN ?_ _) | (with_reducible refine Below.drew ?_) | (with_reducible refine Below.alloc ?_ ?_ _) | (with_reducible refine Below.setCell ?_ ?_ _) | (with_reducible refine Below.trans ?_ (Below.mono (by assumption) ?_)) | (with_reducible exact Nat.le_refl _) | (with_reducible assumption) | omega | (simp; omega) | (simp; done)))⟩
    have hs : a = 0 ∨ a = 1 ∨ a = 2 ∨ a = 3 ∨ a = 4 ∨ a = 5 ∨ a = 6 ∨ a = 7 ∨ a = 8 ∨ a = 9 ∨ a = 10 ∨ a = 11 ∨ a = 12 ∨ a = 13 ∨ a = 14 ∨ a = 15 := by omega
    rcases hs with rfl | rfl | rfl | rfl | rfl | rfl | rfl | rfl | rfl | rfl | rfl | rfl | rfl | rfl | rfl | rfl <;> rfl
/-- An element by its number, written out. -/
abbrev elE (q a : Int) : Value := .agg #[.int .i64 q, .int .i64 (pr q), .int .i64 (pl q), .int .i64 (dg q a 0), .int .i64 (dg q a 1), .int .i64 (dg q a 2), .int .i64 (dg q a 3)]
/-- A field, written out. -/
abbrev fdE (q : Int) : Value := .agg #[.int .i64 q, .int .i64 (pr q), .int .i64 (pl q)]
theorem elementE (q a : Int) (w : World) (h : isSz q = true) (a0 : 0 ≤ a) (a1 : a < q) :
    Calls Tryz.prog 94 #[fdE q, .int .i64 a] w fun e w' => e = .returned (elE q a) ∧ Below w.heap.size w w' := element_any q a w h a0 a1
theorem numberE (q a : Int) (w : World) (h : isSz q = true) (a0 : 0 ≤ a) (a1 : a < q) :
    Calls Tryz.prog 86 #[elE q a] w fun e w' => e = .returned (.int .i64 a) ∧ Below w.heap.size w w' := number_any q a w h a0 a1
theorem timesXE (q a : Int) (w : World) (h : isSz q = true) (a0 : 0 ≤ a) (a1 : a < q) :
    Calls Tryz.prog 204 #[elE q a] w fun e w' => e = .returned (elE q (tXF q a)) ∧ Below w.heap.size w w' := timesX_any q a w h a0 a1
theorem plusE (q a b : Int) (w : World) (h : isSz q = true) (a0 : 0 ≤ a) (a1 : a < q) (b0 : 0 ≤ b) (b1 : b < q) :
    Calls Tryz.prog 174 #[elE q a, elE q b] w fun e w' => e = .returned (elE q (addF q a b)) ∧ Below w.heap.size w w' := by
  have hp := pr_bd q h
  have hk := plN_bd q h
  obtain ⟨e0, e1, e2, e3⟩ := add_dg q a b h a0 a1 b0 b1
  have c := plus_dig q (pr q) (dg q a 0) (dg q a 1) (dg q a 2) (dg q a 3) (dg q b 0) (dg q b 1) (dg q b 2) (dg q b 3) (plN q) w hk.1 hk.2 hp.1 hp.2
    (dg_bd q a 0 h).1 (dg_bd q a 0 h).2 (dg_bd q a 1 h).1 (dg_bd q a 1 h).2 (dg_bd q a 2 h).1 (dg_bd q a 2 h).2 (dg_bd q a 3 h).1 (dg_bd q a 3 h).2
    (dg_bd q b 0 h).1 (dg_bd q b 0 h).2 (dg_bd q b 1 h).1 (dg_bd q b 1 h).2 (dg_bd q b 2 h).1 (dg_bd q b 2 h).2 (dg_bd q b 3 h).1 (dg_bd q b 3 h).2
  rw [e0, e1, e2, e3] at c
  exact c
theorem negE (q a : Int) (w : World) (h : isSz q = true) (a0 : 0 ≤ a) (a1 : a < q) :
    Calls Tryz.prog 168 #[elE q a] w fun e w' => e = .returned (elE q (subF q 0 a)) ∧ Below w.heap.size w w' := by
  have hp := pr_bd q h
  have hk := plN_bd q h
  obtain ⟨e0, e1, e2, e3⟩ := neg_dg q a h a0 a1
  have c := neg_dig q (pr q) (dg q a 0) (dg q a 1) (dg q a 2) (dg q a 3) (plN q) w hk.1 hk.2 hp.1 hp.2
    (dg_bd q a 0 h).1 (dg_bd q a 0 h).2 (dg_bd q a 1 h).1 (dg_bd q a 1 h).2 (dg_bd q a 2 h).1 (dg_bd q a 2 h).2 (dg_bd q a 3 h).1 (dg_bd q a 3 h).2
  rw [e0, e1, e2, e3] at c
  exact c
theorem scaledE (q a c : Int) (w : World) (h : isSz q = true) (a0 : 0 ≤ a) (a1 : a < q) (c0 : 0 ≤ c) (c1 : c < pr q) :
    Calls Tryz.prog 205 #[elE q a, .int .i64 c] w fun e w' => e = .returned (elE q (mulF q c a)) ∧ Below w.heap.size w w' := by
  have hp := pr_bd q h
  have hk := plN_bd q h
  obtain ⟨e0, e1, e2, e3⟩ := scl_dg q a c h a0 a1 c0 c1
  have c := scaled_dig q (pr q) (dg q a 0) (dg q a 1) (dg q a 2) (dg q a 3) c (plN q) w hk.1 hk.2 hp.1 hp.2 c0 c1
    (dg_bd q a 0 h).1 (dg_bd q a 0 h).2 (dg_bd q a 1 h).1 (dg_bd q a 1 h).2 (dg_bd q a 2 h).1 (dg_bd q a 2 h).2 (dg_bd q a 3 h).1 (dg_bd q a 3 h).2
  rw [e0, e1, e2, e3] at c
  exact c

set_option maxHeartbeats 400000 in
/-- impl.field.zero and one. -/
theorem zeroE (q : Int) (w : World) (h : isSz q = true) :
    Calls Tryz.prog 173 #[fdE q] w fun e w' => e = .returned (elE q 0) ∧ Below w.heap.size w w' := by
  have HC := Lib.hid (fun w => elementE q 0 w h (Int.le_refl _) (by have := isSz_le q h; omega))
  clear h
  go_enter Tryz.func173, Tryz.ntmps173
  go_wp2_with fail
  refine (HC.out _).mono ?_
  rintro e w1 ⟨rfl, hb⟩
  obtain ⟨hc, hf⟩ := bcell hb
  have hz_hb := hb.size; (try simp at hz_hb)
  have HB := Lib.hid hb; clear hb
  go_wp2
  refine bodyPost_ret (v := elE q 0) (by simp [results, Tryz.results173, go_sem, hc]) rfl ⟨rfl, by have hb := HB.out; (repeat' (first | (with_reducible assumption) | (with_reducible exact Below.refl _ _) | (with_reducible refine below_drewN ?_ _) | (with_reducible refine Below.drew ?_) | (with_reducible refine Below.alloc ?_ ?_ _) | (with_reducible refine Below.setCell ?_ ?_ _) | (with_reducible refine Below.trans ?_ (Below.mono (by assumption) ?_)) | (with_reducible exact Nat.le_refl _) | (with_reducible assumption) | omega | (simp; omega) | (simp; done)))⟩
set_option maxHeartbeats 400000 in
/-- impl.field.one. -/
theorem oneE (q : Int) (w : World) (h : isSz q = true) :
    Calls Tryz.prog 186 #[fdE q] w fun e w' => e = .returned (elE q 1) ∧ Below w.heap.size w w' := by
  have HC := Lib.hid (fun w => elementE q 1 w h (by decide) (by have := isSz_le q h; omega))
  clear h
  go_enter Tryz.func186, Tryz.ntmps186
  go_wp2_with fail
  refine (HC.out _).mono ?_
  rintro e w1 ⟨rfl, hb⟩
  obtain ⟨hc, hf⟩ := bcell hb
  have hz_hb := hb.size; (try simp at hz_hb)
  have HB := Lib.hid hb; clear hb
  go_wp2
  refine bodyPost_ret (v := elE q 1) (by simp [results, Tryz.results186, go_sem, hc]) rfl ⟨rfl, by have hb := HB.out; (repeat' (first | (with_reducible assumption) | (with_reducible exact Below.refl _ _) | (with_reducible refine below_drewN ?_ _) | (with_reducible refine Below.drew ?_) | (with_reducible refine Below.alloc ?_ ?_ _) | (with_reducible refine Below.setCell ?_ ?_ _) | (with_reducible refine Below.trans ?_ (Below.mono (by assumption) ?_)) | (with_reducible exact Nat.le_refl _) | (with_reducible assumption) | omega | (simp; omega) | (simp; done)))⟩

/-- q is a size and a an element of its field. -/
def inE (q a : Int) : Bool := isSz q && (decide (0 ≤ a) && decide (a < q))
theorem inE_yes {q a : Int} (h : inE q a = true) : isSz q = true ∧ 0 ≤ a ∧ a < q := by
  simpa [inE] using h
theorem inE_no {q a : Int} (h : inE q a = false) : isSz q = false ∨ isSz q = true ∧ a < 0 ∨ isSz q = true ∧ 0 ≤ a ∧ q ≤ a := by
  cases hs : isSz q with
  | false => exact .inl rfl
  | true =>
    simp [inE, hs] at h
    by_cases h0 : a < 0
    · exact .inr (.inl ⟨rfl, h0⟩)
    · exact .inr (.inr ⟨rfl, by omega, h (by omega)⟩)

/-- spec.l1In. -/
theorem l1In_any (n lo hi : Int) (w : World) :
    Calls Tryz.prog 129 #[.int .i64 n, .int .i64 lo, .int .i64 hi] w fun e w' => e = .returned (.bool (decide (lo ≤ n) && decide (n ≤ hi))) ∧ w = w' := by
  by_cases h1 : lo ≤ n
  · go_enter Tryz.func129, Tryz.ntmps129
    go_wp2
    all_goals
      go_ret
      exact ⟨ret_bool (by simp [h1]), rfl⟩
  · go_enter Tryz.func129, Tryz.ntmps129
    go_wp2
    all_goals
      go_ret
      exact ⟨ret_bool (by simp; try omega), rfl⟩
/-- spec.fdIn. -/
theorem fdIn_any (q a : Int) (w : World) :
    Calls Tryz.prog 115 #[.int .i64 q, .int .i64 a] w fun e w' => e = .returned (.bool (inE q a)) ∧ Below w.heap.size w w' := by
  cases h : isSz q with
  | true =>
    have hq := isSz_le q h
    have e : inE q a = (decide (0 ≤ a) && decide (a ≤ q - 1)) := by
      simp only [inE, h, Bool.true_and]
      congr 1
      exact decide_eq_decide.2 (by omega)
    have HE := Lib.hid e; clear e
    go_enter Tryz.func115, Tryz.ntmps115
    go_wp2_with (first | (go_at_call 102; refine (fdSize_any _ _).mono ?_; rintro e w1 ⟨rfl, hb⟩; have hz_hb := hb.size; (try simp at hz_hb)) | (go_at_call 129; refine (l1In_any _ _ _ _).mono ?_; rintro e w2 ⟨rfl, rfl⟩))
    all_goals
      go_ret
      exact ⟨ret_bool (by rw [HE.out] <;> simp), by (repeat' (first | (with_reducible assumption) | (with_reducible exact Below.refl _ _) | (with_reducible refine below_drewN ?_ _) | (with_reducible refine Below.drew ?_) | (with_reducible refine Below.alloc ?_ ?_ _) | (with_reducible refine Below.setCell ?_ ?_ _) | (with_reducible refine Below.trans ?_ (Below.mono (by assumption) ?_)) | (with_reducible exact Nat.le_refl _) | (with_reducible assumption) | omega | (simp; omega) | (simp; done)))⟩
  | false =>
    have e : inE q a = false := by simp [inE, h]
    have HE := Lib.hid e; clear e
    go_enter Tryz.func115, Tryz.ntmps115
    go_wp2_with (first | (go_at_call 102; refine (fdSize_any _ _).mono ?_; rintro e w1 ⟨rfl, hb⟩; have hz_hb := hb.size; (try simp at hz_hb)))
    go_ret
    exact ⟨ret_bool HE.out.symm, by (repeat' (first | (with_reducible assumption) | (with_reducible exact Below.refl _ _) | (with_reducible refine below_drewN ?_ _) | (with_reducible refine Below.drew ?_) | (with_reducible refine Below.alloc ?_ ?_ _) | (with_reducible refine Below.setCell ?_ ?_ _) | (with_reducible refine Below.trans ?_ (Below.mono (by assumption) ?_)) | (with_reducible exact Nat.le_refl _) | (with_reducible assumption) | omega | (simp; omega) | (simp; done)))⟩

/-- impl.field.has. -/
theorem has_yes (q a : Int) (w : World) (a0 : 0 ≤ a) (a1 : a < q) :
    Calls Tryz.prog 181 #[fdE q, .int .i64 a] w fun e w' => e = .returned (.bool true) ∧ Below w.heap.size w w' := by
  go_enter Tryz.func181, Tryz.ntmps181
  go_wp2
  go_ret
  exact ⟨rfl, by (repeat' (first | (with_reducible assumption) | (with_reducible exact Below.refl _ _) | (with_reducible refine below_drewN ?_ _) | (with_reducible refine Below.drew ?_) | (with_reducible refine Below.alloc ?_ ?_ _) | (with_reducible refine Below.setCell ?_ ?_ _) | (with_reducible refine Below.trans ?_ (Below.mono (by assumption) ?_)) | (with_reducible exact Nat.le_refl _) | (with_reducible assumption) | omega | (simp; omega) | (simp; done)))⟩
theorem has_low (q a : Int) (w : World) (a0 : a < 0) :
    Calls Tryz.prog 181 #[fdE q, .int .i64 a] w fun e w' => e = .returned (.bool false) ∧ Below w.heap.size w w' := by
  go_enter Tryz.func181, Tryz.ntmps181
  go_wp2
  go_ret
  exact ⟨rfl, by (repeat' (first | (with_reducible assumption) | (with_reducible exact Below.refl _ _) | (with_reducible refine below_drewN ?_ _) | (with_reducible refine Below.drew ?_) | (with_reducible refine Below.alloc ?_ ?_ _) | (with_reducible refine Below.setCell ?_ ?_ _) | (with_reducible refine Below.trans ?_ (Below.mono (by assumption) ?_)) | (with_reducible exact Nat.le_refl _) | (with_reducible assumption) | omega | (simp; omega) | (simp; done)))⟩
theorem has_high (q a : Int) (w : World) (a0 : 0 ≤ a) (a1 : q ≤ a) :
    Calls Tryz.prog 181 #[fdE q, .int .i64 a] w fun e w' => e = .returned (.bool false) ∧ Below w.heap.size w w' := by
  go_enter Tryz.func181, Tryz.ntmps181
  go_wp2
  go_ret
  exact ⟨ret_bool (by simp; omega), by (repeat' (first | (with_reducible assumption) | (with_reducible exact Below.refl _ _) | (with_reducible refine below_drewN ?_ _) | (with_reducible refine Below.drew ?_) | (with_reducible refine Below.alloc ?_ ?_ _) | (with_reducible refine Below.setCell ?_ ?_ _) | (with_reducible refine Below.trans ?_ (Below.mono (by assumption) ?_)) | (with_reducible exact Nat.le_refl _) | (with_reducible assumption) | omega | (simp; omega) | (simp; done)))⟩

/-- The block of an element's zero value. -/
abbrev zblk : Obj := .cells #[.int .i64 0, .int .i64 0, .int .i64 0, .int .i64 0, .int .i64 0, .int .i64 0, .int .i64 0] 67
/-- The element of a call that fails. -/
abbrev elZ : Value := .agg #[.int .i64 0, .int .i64 0, .int .i64 0, .int .i64 0, .int .i64 0, .int .i64 0, .int .i64 0]

set_option maxHeartbeats 1000000 in
/-- impl.elementOf. -/
theorem elementOf_yes (q a : Int) (w : World) (h : inE q a = true) :
    Calls Tryz.prog 131 #[.int .i64 q, .int .i64 a] w fun e w' => e = .returned (.tuple #[elE q a, .bool true]) ∧ Below w.heap.size w w' := by
  obtain ⟨hs, a0, a1⟩ := inE_yes h
  clear h
  have HE := Lib.hid (fun w => elementE q a w hs a0 a1)
  have HS := Lib.hid (fun w => fieldOf_yes q w hs)
  clear hs
  go_enter Tryz.func131, Tryz.ntmps131
  go_wp2_with (first | (go_at_call 90; refine (HS.out _).mono ?_; rintro e w1 ⟨rfl, hb1⟩; obtain ⟨hc1, hf1⟩ := bcell hb1; have hz1 := hb1.size; (try simp at hz1); have HB1 := Lib.hid hb1; clear hb1; have hl0 : w.heap.size < w1.heap.size := (by omega)) | (go_at_call 181; refine (has_yes _ _ _ a0 a1).mono ?_; rintro e w2 ⟨rfl, hb2⟩; obtain ⟨hc2, hf2⟩ := bcell hb2; have hz2 := hb2.size; (try simp at hz2); have HB2 := Lib.hid hb2; clear hb2; have hl2 : w1.heap.size < w2.heap.size := (by omega); have hl1 : w.heap.size < w2.heap.size := (by omega)) | (go_at_call 94; refine (HE.out _).mono ?_; rintro e w3 ⟨rfl, hb3⟩; obtain ⟨hc3, hf3⟩ := bcell hb3; have hz3 := hb3.size; (try simp at hz3); have HB3 := Lib.hid hb3; clear hb3; have hl3 : w.heap.size < w3.heap.size := (by omega)))
  have hb1 := HB1.out
  have hb2 := HB2.out
  have hb3 := HB3.out
  have r : ∀ o, w3.cell? ⟨w.heap.size, o, none⟩ = (w.alloc zblk).cell? ⟨w.heap.size, o, none⟩ := fun o => Below.cell (B := w.heap.size + 1) (by (repeat' (first | (with_reducible assumption) | (with_reducible exact Below.refl _ _) | (with_reducible refine below_drewN ?_ _) | (with_reducible refine Below.drew ?_) | (with_reducible refine Below.alloc ?_ ?_ _) | (with_reducible refine Below.setCell ?_ ?_ _) | (with_reducible refine Below.trans ?_ (Below.mono (by assumption) ?_)) | (with_reducible exact Nat.le_refl _) | (with_reducible assumption) | omega | (simp; omega) | (simp; done)))) (by simp)
  refine bodyPost_ret (v := .tuple #[elE q a, .bool true]) (by simp [results, Tryz.results131, go_sem, r, zblk]) rfl ⟨rfl, ?_⟩
  (repeat' (first | (with_reducible assumption) | (with_reducible exact Below.refl _ _) | (with_reducible refine below_drewN ?_ _) | (with_reducible refine Below.drew ?_) | (with_reducible refine Below.alloc ?_ ?_ _) | (with_reducible refine Below.setCell ?_ ?_ _) | (with_reducible refine Below.trans ?_ (Below.mono (by assumption) ?_)) | (with_reducible exact Nat.le_refl _) | (with_reducible assumption) | omega | (simp; omega) | (simp; done)))
set_option maxHeartbeats 1000000 in
/-- impl.elementOf elsewhere. -/
theorem elementOf_no (q a : Int) (w : World) (h : inE q a = false) :
    Calls Tryz.prog 131 #[.int .i64 q, .int .i64 a] w fun e w' => e = .returned (.tuple #[elZ, .bool false]) ∧ Below w.heap.size w w' := by
  rcases inE_no h with hs | ⟨hs, a0⟩ | ⟨hs, a0, a1⟩
  · clear h
    have HS := Lib.hid (fun w => fieldOf_no q w hs)
    clear hs
    go_enter Tryz.func131, Tryz.ntmps131
    go_wp2_with (first | (go_at_call 90; refine (HS.out _).mono ?_; rintro e w1 ⟨rfl, hb1⟩; obtain ⟨hc1, hf1⟩ := bcell hb1; have hz1 := hb1.size; (try simp at hz1); have HB1 := Lib.hid hb1; clear hb1; have hl0 : w.heap.size < w1.heap.size := (by omega)))
    have hb1 := HB1.out
    have r : ∀ o, w1.cell? ⟨w.heap.size, o, none⟩ = (w.alloc zblk).cell? ⟨w.heap.size, o, none⟩ := fun o => Below.cell (B := w.heap.size + 1) (by (repeat' (first | (with_reducible assumption) | (with_reducible exact Below.refl _ _) | (with_reducible refine below_drewN ?_ _) | (with_reducible refine Below.drew ?_) | (with_reducible refine Below.alloc ?_ ?_ _) | (with_reducible refine Below.setCell ?_ ?_ _) | (with_reducible refine Below.trans ?_ (Below.mono (by assumption) ?_)) | (with_reducible exact Nat.le_refl _) | (with_reducible assumption) | omega | (simp; omega) | (simp; done)))) (by simp)
    refine bodyPost_ret (v := .tuple #[elZ, .bool false]) (by simp [results, Tryz.results131, go_sem, r, zblk, hl0]) rfl ⟨rfl, ?_⟩
    (repeat' (first | (with_reducible assumption) | (with_reducible exact Below.refl _ _) | (with_reducible refine below_drewN ?_ _) | (with_reducible refine Below.drew ?_) | (with_reducible refine Below.alloc ?_ ?_ _) | (with_reducible refine Below.setCell ?_ ?_ _) | (with_reducible refine Below.trans ?_ (Below.mono (by assumption) ?_)) | (with_reducible exact Nat.le_refl _) | (with_reducible assumption) | omega | (simp; omega) | (simp; done)))
  · clear h
    have HS := Lib.hid (fun w => fieldOf_yes q w hs)
    clear hs
    go_enter Tryz.func131, Tryz.ntmps131
    go_wp2_with (first | (go_at_call 90; refine (HS.out _).mono ?_; rintro e w1 ⟨rfl, hb1⟩; obtain ⟨hc1, hf1⟩ := bcell hb1; have hz1 := hb1.size; (try simp at hz1); have HB1 := Lib.hid hb1; clear hb1; have hl0 : w.heap.size < w1.heap.size := (by omega)) | (go_at_call 181; refine (has_low _ _ _ a0).mono ?_; rintro e w2 ⟨rfl, hb2⟩; obtain ⟨hc2, hf2⟩ := bcell hb2; have hz2 := hb2.size; (try simp at hz2); have HB2 := Lib.hid hb2; clear hb2; have hl2 : w1.heap.size < w2.heap.size := (by omega); have hl1 : w.heap.size < w2.heap.size := (by omega)))
    have hb1 := HB1.out
    have hb2 := HB2.out
    have r : ∀ o, w2.cell? ⟨w.heap.size, o, none⟩ = (w.alloc zblk).cell? ⟨w.heap.size, o, none⟩ := fun o => Below.cell (B := w.heap.size + 1) (by (repeat' (first | (with_reducible assumption) | (with_reducible exact Below.refl _ _) | (with_reducible refine below_drewN ?_ _) | (with_reducible refine Below.drew ?_) | (with_reducible refine Below.alloc ?_ ?_ _) | (with_reducible refine Below.setCell ?_ ?_ _) | (with_reducible refine Below.trans ?_ (Below.mono (by assumption) ?_)) | (with_reducible exact Nat.le_refl _) | (with_reducible assumption) | omega | (simp; omega) | (simp; done)))) (by simp)
    refine bodyPost_ret (v := .tuple #[elZ, .bool false]) (by simp [results, Tryz.results131, go_sem, r, zblk]) rfl ⟨rfl, ?_⟩
    (repeat' (first | (with_reducible assumption) | (with_reducible exact Below.refl _ _) | (with_reducible refine below_drewN ?_ _) | (with_reducible refine Below.drew ?_) | (with_reducible refine Below.alloc ?_ ?_ _) | (with_reducible refine Below.setCell ?_ ?_ _) | (with_reducible refine Below.trans ?_ (Below.mono (by assumption) ?_)) | (with_reducible exact Nat.le_refl _) | (with_reducible assumption) | omega | (simp; omega) | (simp; done)))
  · clear h
    have HS := Lib.hid (fun w => fieldOf_yes q w hs)
    clear hs
    go_enter Tryz.func131, Tryz.ntmps131
    go_wp2_with (first | (go_at_call 90; refine (HS.out _).mono ?_; rintro e w1 ⟨rfl, hb1⟩; obtain ⟨hc1, hf1⟩ := bcell hb1; have hz1 := hb1.size; (try simp at hz1); have HB1 := Lib.hid hb1; clear hb1; have hl0 : w.heap.size < w1.heap.size := (by omega)) | (go_at_call 181; refine (has_high _ _ _ a0 a1).mono ?_; rintro e w2 ⟨rfl, hb2⟩; obtain ⟨hc2, hf2⟩ := bcell hb2; have hz2 := hb2.size; (try simp at hz2); have HB2 := Lib.hid hb2; clear hb2; have hl2 : w1.heap.size < w2.heap.size := (by omega); have hl1 : w.heap.size < w2.heap.size := (by omega)))
    have hb1 := HB1.out
    have hb2 := HB2.out
    have r : ∀ o, w2.cell? ⟨w.heap.size, o, none⟩ = (w.alloc zblk).cell? ⟨w.heap.size, o, none⟩ := fun o => Below.cell (B := w.heap.size + 1) (by (repeat' (first | (with_reducible assumption) | (with_reducible exact Below.refl _ _) | (with_reducible refine below_drewN ?_ _) | (with_reducible refine Below.drew ?_) | (with_reducible refine Below.alloc ?_ ?_ _) | (with_reducible refine Below.setCell ?_ ?_ _) | (with_reducible refine Below.trans ?_ (Below.mono (by assumption) ?_)) | (with_reducible exact Nat.le_refl _) | (with_reducible assumption) | omega | (simp; omega) | (simp; done)))) (by simp)
    refine bodyPost_ret (v := .tuple #[elZ, .bool false]) (by simp [results, Tryz.results131, go_sem, r, zblk]) rfl ⟨rfl, ?_⟩
    (repeat' (first | (with_reducible assumption) | (with_reducible exact Below.refl _ _) | (with_reducible refine below_drewN ?_ _) | (with_reducible refine Below.drew ?_) | (with_reducible refine Below.alloc ?_ ?_ _) | (with_reducible refine Below.setCell ?_ ?_ _) | (with_reducible refine Below.trans ?_ (Below.mono (by assumption) ?_)) | (with_reducible exact Nat.le_refl _) | (with_reducible assumption) | omega | (simp; omega) | (simp; done)))

set_option maxHeartbeats 1000000 in
/-- impl.pairOf. -/
theorem pairOf_yes (q a b : Int) (w : World) (ha : inE q a = true) (hb : inE q b = true) :
    Calls Tryz.prog 183 #[.int .i64 q, .int .i64 a, .int .i64 b] w fun e w' => e = .returned (.tuple #[elE q a, elE q b, .bool true]) ∧ Below w.heap.size w w' := by
  have HA := Lib.hid (fun w => elementOf_yes q a w ha)
  have HB := Lib.hid (fun w => elementOf_yes q b w hb)
  clear ha hb
  go_enter Tryz.func183, Tryz.ntmps183
  go_wp2_with fail
  refine (HA.out _).mono ?_
  rintro e w1 ⟨rfl, hb1⟩
  obtain ⟨hc1, hf1⟩ := bcell hb1; have hz1 := hb1.size; (try simp at hz1); have HB1 := Lib.hid hb1; clear hb1
  have hl0 : w.heap.size < w1.heap.size := by omega
  have hl1 : w.heap.size + 1 < w1.heap.size := by omega
  go_wp2_with fail
  refine (HB.out _).mono ?_
  rintro e w2 ⟨rfl, hb2⟩
  obtain ⟨hc2, hf2⟩ := bcell hb2; have hz2 := hb2.size; (try simp at hz2); have HB2 := Lib.hid hb2; clear hb2
  have hl2 : w1.heap.size < w2.heap.size := by omega
  have hl3 : w.heap.size < w2.heap.size := by omega
  have hl4 : w.heap.size + 1 < w2.heap.size := by omega
  go_wp2_with fail
  go_region
  all_goals
    go_wp2
    have hb1 := HB1.out
    have hb2 := HB2.out
    have r : ∀ o, w2.cell? ⟨w.heap.size, o, none⟩ = ((w.alloc zblk).alloc zblk).cell? ⟨w.heap.size, o, none⟩ := fun o => Below.cell (B := w.heap.size + 2) (by (repeat' (first | (with_reducible assumption) | (with_reducible exact Below.refl _ _) | (with_reducible refine below_drewN ?_ _) | (with_reducible refine Below.drew ?_) | (with_reducible refine Below.alloc ?_ ?_ _) | (with_reducible refine Below.setCell ?_ ?_ _) | (with_reducible refine Below.trans ?_ (Below.mono (by assumption) ?_)) | (with_reducible exact Nat.le_refl _) | (with_reducible assumption) | omega | (simp; omega) | (simp; done)))) (by simp)
    have r' : ∀ o, w2.cell? ⟨w.heap.size + 1, o, none⟩ = ((w.alloc zblk).alloc zblk).cell? ⟨w.heap.size + 1, o, none⟩ := fun o => Below.cell (B := w.heap.size + 2) (by (repeat' (first | (with_reducible assumption) | (with_reducible exact Below.refl _ _) | (with_reducible refine below_drewN ?_ _) | (with_reducible refine Below.drew ?_) | (with_reducible refine Below.alloc ?_ ?_ _) | (with_reducible refine Below.setCell ?_ ?_ _) | (with_reducible refine Below.trans ?_ (Below.mono (by assumption) ?_)) | (with_reducible exact Nat.le_refl _) | (with_reducible assumption) | omega | (simp; omega) | (simp; done)))) (by simp)
    refine bodyPost_ret (v := .tuple #[elE q a, elE q b, .bool true]) (by simp [results, Tryz.results183, go_sem, r, r', zblk, hl3, hl4]) rfl ⟨rfl, ?_⟩
    (repeat' (first | (with_reducible assumption) | (with_reducible exact Below.refl _ _) | (with_reducible refine below_drewN ?_ _) | (with_reducible refine Below.drew ?_) | (with_reducible refine Below.alloc ?_ ?_ _) | (with_reducible refine Below.setCell ?_ ?_ _) | (with_reducible refine Below.trans ?_ (Below.mono (by assumption) ?_)) | (with_reducible exact Nat.le_refl _) | (with_reducible assumption) | omega | (simp; omega) | (simp; done)))

set_option maxHeartbeats 1000000 in
/-- impl.pairOf elsewhere: a no, b no. -/
theorem pairOf_no1 (q a b : Int) (w : World) (ha : inE q a = false) (hb : inE q b = false) :
    Calls Tryz.prog 183 #[.int .i64 q, .int .i64 a, .int .i64 b] w fun e w' => e = .returned (.tuple #[elZ, elZ, .bool false]) ∧ Below w.heap.size w w' := by
  have HA := Lib.hid (fun w => elementOf_no q a w ha)
  have HB := Lib.hid (fun w => elementOf_no q b w hb)
  clear ha hb
  go_enter Tryz.func183, Tryz.ntmps183
  go_wp2_with fail
  refine (HA.out _).mono ?_
  rintro e w1 ⟨rfl, hb1⟩
  obtain ⟨hc1, hf1⟩ := bcell hb1; have hz1 := hb1.size; (try simp at hz1); have HB1 := Lib.hid hb1; clear hb1
  have hl0 : w.heap.size < w1.heap.size := by omega
  have hl1 : w.heap.size + 1 < w1.heap.size := by omega
  go_wp2_with fail
  refine (HB.out _).mono ?_
  rintro e w2 ⟨rfl, hb2⟩
  obtain ⟨hc2, hf2⟩ := bcell hb2; have hz2 := hb2.size; (try simp at hz2); have HB2 := Lib.hid hb2; clear hb2
  have hl2 : w1.heap.size < w2.heap.size := by omega
  have hl3 : w.heap.size < w2.heap.size := by omega
  have hl4 : w.heap.size + 1 < w2.heap.size := by omega
  go_wp2_with fail
  have hb1 := HB1.out
  have hb2 := HB2.out
  have r : ∀ o, w2.cell? ⟨w.heap.size, o, none⟩ = ((w.alloc zblk).alloc zblk).cell? ⟨w.heap.size, o, none⟩ := fun o => Below.cell (B := w.heap.size + 2) (by (repeat' (first | (with_reducible assumption) | (with_reducible exact Below.refl _ _) | (with_reducible refine below_drewN ?_ _) | (with_reducible refine Below.drew ?_) | (with_reducible refine Below.alloc ?_ ?_ _) | (with_reducible refine Below.setCell ?_ ?_ _) | (with_reducible refine Below.trans ?_ (Below.mono (by assumption) ?_)) | (with_reducible exact Nat.le_refl _) | (with_reducible assumption) | omega | (simp; omega) | (simp; done)))) (by simp)
  have r' : ∀ o, w2.cell? ⟨w.heap.size + 1, o, none⟩ = ((w.alloc zblk).alloc zblk).cell? ⟨w.heap.size + 1, o, none⟩ := fun o => Below.cell (B := w.heap.size + 2) (by (repeat' (first | (with_reducible assumption) | (with_reducible exact Below.refl _ _) | (with_reducible refine below_drewN ?_ _) | (with_reducible refine Below.drew ?_) | (with_reducible refine Below.alloc ?_ ?_ _) | (with_reducible refine Below.setCell ?_ ?_ _) | (with_reducible refine Below.trans ?_ (Below.mono (by assumption) ?_)) | (with_reducible exact Nat.le_refl _) | (with_reducible assumption) | omega | (simp; omega) | (simp; done)))) (by simp)
  refine bodyPost_ret (v := .tuple #[elZ, elZ, .bool false]) (by simp [results, Tryz.results183, go_sem, r, r', zblk, hl3, hl4]) rfl ⟨rfl, ?_⟩
  (repeat' (first | (with_reducible assumption) | (with_reducible exact Below.refl _ _) | (with_reducible refine below_drewN ?_ _) | (with_reducible refine Below.drew ?_) | (with_reducible refine Below.alloc ?_ ?_ _) | (with_reducible refine Below.setCell ?_ ?_ _) | (with_reducible refine Below.trans ?_ (Below.mono (by assumption) ?_)) | (with_reducible exact Nat.le_refl _) | (with_reducible assumption) | omega | (simp; omega) | (simp; done)))

set_option maxHeartbeats 1000000 in
/-- impl.pairOf elsewhere: a no, b yes. -/
theorem pairOf_no2 (q a b : Int) (w : World) (ha : inE q a = false) (hb : inE q b = true) :
    Calls Tryz.prog 183 #[.int .i64 q, .int .i64 a, .int .i64 b] w fun e w' => e = .returned (.tuple #[elZ, elZ, .bool false]) ∧ Below w.heap.size w w' := by
  have HA := Lib.hid (fun w => elementOf_no q a w ha)
  have HB := Lib.hid (fun w => elementOf_yes q b w hb)
  clear ha hb
  go_enter Tryz.func183, Tryz.ntmps183
  go_wp2_with fail
  refine (HA.out _).mono ?_
  rintro e w1 ⟨rfl, hb1⟩
  obtain ⟨hc1, hf1⟩ := bcell hb1; have hz1 := hb1.size; (try simp at hz1); have HB1 := Lib.hid hb1; clear hb1
  have hl0 : w.heap.size < w1.heap.size := by omega
  have hl1 : w.heap.size + 1 < w1.heap.size := by omega
  go_wp2_with fail
  refine (HB.out _).mono ?_
  rintro e w2 ⟨rfl, hb2⟩
  obtain ⟨hc2, hf2⟩ := bcell hb2; have hz2 := hb2.size; (try simp at hz2); have HB2 := Lib.hid hb2; clear hb2
  have hl2 : w1.heap.size < w2.heap.size := by omega
  have hl3 : w.heap.size < w2.heap.size := by omega
  have hl4 : w.heap.size + 1 < w2.heap.size := by omega
  go_wp2_with fail
  have hb1 := HB1.out
  have hb2 := HB2.out
  have r : ∀ o, w2.cell? ⟨w.heap.size, o, none⟩ = ((w.alloc zblk).alloc zblk).cell? ⟨w.heap.size, o, none⟩ := fun o => Below.cell (B := w.heap.size + 2) (by (repeat' (first | (with_reducible assumption) | (with_reducible exact Below.refl _ _) | (with_reducible refine below_drewN ?_ _) | (with_reducible refine Below.drew ?_) | (with_reducible refine Below.alloc ?_ ?_ _) | (with_reducible refine Below.setCell ?_ ?_ _) | (with_reducible refine Below.trans ?_ (Below.mono (by assumption) ?_)) | (with_reducible exact Nat.le_refl _) | (with_reducible assumption) | omega | (simp; omega) | (simp; done)))) (by simp)
  have r' : ∀ o, w2.cell? ⟨w.heap.size + 1, o, none⟩ = ((w.alloc zblk).alloc zblk).cell? ⟨w.heap.size + 1, o, none⟩ := fun o => Below.cell (B := w.heap.size + 2) (by (repeat' (first | (with_reducible assumption) | (with_reducible exact Below.refl _ _) | (with_reducible refine below_drewN ?_ _) | (with_reducible refine Below.drew ?_) | (with_reducible refine Below.alloc ?_ ?_ _) | (with_reducible refine Below.setCell ?_ ?_ _) | (with_reducible refine Below.trans ?_ (Below.mono (by assumption) ?_)) | (with_reducible exact Nat.le_refl _) | (with_reducible assumption) | omega | (simp; omega) | (simp; done)))) (by simp)
  refine bodyPost_ret (v := .tuple #[elZ, elZ, .bool false]) (by simp [results, Tryz.results183, go_sem, r, r', zblk, hl3, hl4]) rfl ⟨rfl, ?_⟩
  (repeat' (first | (with_reducible assumption) | (with_reducible exact Below.refl _ _) | (with_reducible refine below_drewN ?_ _) | (with_reducible refine Below.drew ?_) | (with_reducible refine Below.alloc ?_ ?_ _) | (with_reducible refine Below.setCell ?_ ?_ _) | (with_reducible refine Below.trans ?_ (Below.mono (by assumption) ?_)) | (with_reducible exact Nat.le_refl _) | (with_reducible assumption) | omega | (simp; omega) | (simp; done)))

set_option maxHeartbeats 1000000 in
/-- impl.pairOf elsewhere: a yes, b no. -/
theorem pairOf_no3 (q a b : Int) (w : World) (ha : inE q a = true) (hb : inE q b = false) :
    Calls Tryz.prog 183 #[.int .i64 q, .int .i64 a, .int .i64 b] w fun e w' => e = .returned (.tuple #[elZ, elZ, .bool false]) ∧ Below w.heap.size w w' := by
  have HA := Lib.hid (fun w => elementOf_yes q a w ha)
  have HB := Lib.hid (fun w => elementOf_no q b w hb)
  clear ha hb
  go_enter Tryz.func183, Tryz.ntmps183
  go_wp2_with fail
  refine (HA.out _).mono ?_
  rintro e w1 ⟨rfl, hb1⟩
  obtain ⟨hc1, hf1⟩ := bcell hb1; have hz1 := hb1.size; (try simp at hz1); have HB1 := Lib.hid hb1; clear hb1
  have hl0 : w.heap.size < w1.heap.size := by omega
  have hl1 : w.heap.size + 1 < w1.heap.size := by omega
  go_wp2_with fail
  refine (HB.out _).mono ?_
  rintro e w2 ⟨rfl, hb2⟩
  obtain ⟨hc2, hf2⟩ := bcell hb2; have hz2 := hb2.size; (try simp at hz2); have HB2 := Lib.hid hb2; clear hb2
  have hl2 : w1.heap.size < w2.heap.size := by omega
  have hl3 : w.heap.size < w2.heap.size := by omega
  have hl4 : w.heap.size + 1 < w2.heap.size := by omega
  go_wp2_with fail
  have hb1 := HB1.out
  have hb2 := HB2.out
  have r : ∀ o, w2.cell? ⟨w.heap.size, o, none⟩ = ((w.alloc zblk).alloc zblk).cell? ⟨w.heap.size, o, none⟩ := fun o => Below.cell (B := w.heap.size + 2) (by (repeat' (first | (with_reducible assumption) | (with_reducible exact Below.refl _ _) | (with_reducible refine below_drewN ?_ _) | (with_reducible refine Below.drew ?_) | (with_reducible refine Below.alloc ?_ ?_ _) | (with_reducible refine Below.setCell ?_ ?_ _) | (with_reducible refine Below.trans ?_ (Below.mono (by assumption) ?_)) | (with_reducible exact Nat.le_refl _) | (with_reducible assumption) | omega | (simp; omega) | (simp; done)))) (by simp)
  have r' : ∀ o, w2.cell? ⟨w.heap.size + 1, o, none⟩ = ((w.alloc zblk).alloc zblk).cell? ⟨w.heap.size + 1, o, none⟩ := fun o => Below.cell (B := w.heap.size + 2) (by (repeat' (first | (with_reducible assumption) | (with_reducible exact Below.refl _ _) | (with_reducible refine below_drewN ?_ _) | (with_reducible refine Below.drew ?_) | (with_reducible refine Below.alloc ?_ ?_ _) | (with_reducible refine Below.setCell ?_ ?_ _) | (with_reducible refine Below.trans ?_ (Below.mono (by assumption) ?_)) | (with_reducible exact Nat.le_refl _) | (with_reducible assumption) | omega | (simp; omega) | (simp; done)))) (by simp)
  refine bodyPost_ret (v := .tuple #[elZ, elZ, .bool false]) (by simp [results, Tryz.results183, go_sem, r, r', zblk, hl3, hl4]) rfl ⟨rfl, ?_⟩
  (repeat' (first | (with_reducible assumption) | (with_reducible exact Below.refl _ _) | (with_reducible refine below_drewN ?_ _) | (with_reducible refine Below.drew ?_) | (with_reducible refine Below.alloc ?_ ?_ _) | (with_reducible refine Below.setCell ?_ ?_ _) | (with_reducible refine Below.trans ?_ (Below.mono (by assumption) ?_)) | (with_reducible exact Nat.le_refl _) | (with_reducible assumption) | omega | (simp; omega) | (simp; done)))
end Go.Proofs.YtljijnanmpajaaaGreat
