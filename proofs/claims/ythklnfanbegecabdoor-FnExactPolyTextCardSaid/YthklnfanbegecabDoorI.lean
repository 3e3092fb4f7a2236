/- impl.field.element, field.zero, field.one, the element's methods number and timesX on four digits. -/
import Derived.Test.YthklnfanbegecabDoorG
import Derived.Test.YthklnfanbegecabDoorQ
namespace Go.Proofs.YthklnfanbegecabDoor
open Go.RowKit
/-- An element by its number. -/
def elV (q a : Int) : Value := elD q (pr q) (pl q) (dg q a 0) (dg q a 1) (dg q a 2) (dg q a 3)
/-- A field. -/
def fdV (q : Int) : Value := .agg #[.int .i64 q, .int .i64 (pr q), .int .i64 (pl q)]
theorem elV_one (q a : Int) (h : plN q = 1) (hp : pr q = q) (a0 : 0 ≤ a) (a1 : a < q) : elV q a = elD q q 1 a 0 0 0 := by
  simp [elV, elD, dg, digs, h, pl, hp, Int.emod_eq_of_lt a0 a1]
theorem elV_4 (a : Int) : elV 4 a = elD 4 2 2 (a % 2) (a / 2 % 2) 0 0 := by simp [elV, elD, dg, digs, plN, pl, pr]
theorem elV_8 (a : Int) : elV 8 a = elD 8 2 3 (a % 2) (a / 2 % 2) (a / 2 / 2 % 2) 0 := by simp [elV, elD, dg, digs, plN, pl, pr]
theorem elV_9 (a : Int) : elV 9 a = elD 9 3 2 (a % 3) (a / 3 % 3) 0 0 := by simp [elV, elD, dg, digs, plN, pl, pr]
theorem elV_16 (a : Int) : elV 16 a = elD 16 2 4 (a % 2) (a / 2 % 2) (a / 2 / 2 % 2) (a / 2 / 2 / 2 % 2) := by simp [elV, elD, dg, digs, plN, pl, pr]
theorem five (q : Int) (h : isSz q = true) : (plN q = 1 ∧ pr q = q ∧ 2 ≤ q ∧ q ≤ 13 ∧ q ≠ 4 ∧ q ≠ 8 ∧ q ≠ 9 ∧ q ≠ 16) ∨ q = 4 ∨ q = 8 ∨ q = 9 ∨ q = 16 := by
  rcases sz_split q h with rfl | rfl | rfl | rfl | rfl | rfl | rfl | rfl | rfl | rfl <;> decide

set_option maxHeartbeats 1000000 in
/-- impl.field.element. -/
theorem element_any (q a : Int) (w : World) (h : isSz q = true) (a0 : 0 ≤ a) (a1 : a < q) :
    Calls Tryd.prog 18 #[fdV q, .int .i64 a] w fun e w' => e = .returned (elV q a) ∧ Below w.heap.size w w' := by
  rcases five q h with ⟨hk, hp, q2, q13, _⟩ | rfl | rfl | rfl | rfl
  · have e1 := elV_one q a hk hp a0 a1
    have e2 : fdV q = .agg #[.int .i64 q, .int .i64 q, .int .i64 1] := by simp [fdV, pl, hk, hp]
    rw [e1, e2]
    have em : a % q = a := Int.emod_eq_of_lt a0 a1
    have ed : a / q = 0 := Int.ediv_eq_zero_of_lt a0 a1
    clear e1 e2 h hk hp
    go_enter Tryd.func18, Tryd.ntmps18
    go_wp2
    (refine wp_loop_rounds 5 ?_; repeat any_goals (rw [rounds_succ]; go_wp2))
    go_wp2
    (refine bodyPost_ret (by simp [results, Tryd.results18, go_sem]; try rfl) rfl ?_)
    exact ⟨rfl, by (repeat' (first | (with_reducible assumption) | (with_reducible exact Below.refl _ _) | (with_reducible refine below_drewN ?_ _) | (with_reducible refine Below.drew ?_) | (with_reducible refine Below.alloc ?_ ?_ _) | (with_reducible refine Below.setCell ?_ ?_ _) | (with_reducible refine Below.trans ?_ (Below.mono (by assumption) ?_)) | (with_reducible exact Nat.le_refl _) | (with_reducible assumption) | omega | (simp; omega) | (simp; done)))⟩
  · rw [elV_4, show fdV 4 = .agg #[.int .i64 4, .int .i64 2, .int .i64 2] from by simp [fdV, pl, plN, pr]]
    clear h
    go_enter Tryd.func18, Tryd.ntmps18
    go_wp2
    (refine wp_loop_rounds 5 ?_; repeat any_goals (rw [rounds_succ]; go_wp2))
    go_wp2
    (refine bodyPost_ret (by simp [results, Tryd.results18, go_sem]; try rfl) rfl ?_)
    exact ⟨rfl, by (repeat' (first | (with_reducible assumption) | (with_reducible exact Below.refl _ _) | (with_reducible refine below_drewN ?_ _) | (with_reducible refine Below.drew ?_) | (with_reducible refine Below.alloc ?_ ?_ _) | (with_reducible refine Below.setCell ?_ ?_ _) | (with_reducible refine Below.trans ?_ (Below.mono (by assumption) ?_)) | (with_reducible exact Nat.le_refl _) | (with_reducible assumption) | omega | (simp; omega) | (simp; done)))⟩
  · rw [elV_8, show fdV 8 = .agg #[.int .i64 8, .int .i64 2, .int .i64 3] from by simp [fdV, pl, plN, pr]]
    clear h
    go_enter Tryd.func18, Tryd.ntmps18
    go_wp2
    (refine wp_loop_rounds 5 ?_; repeat any_goals (rw [rounds_succ]; go_wp2))
    go_wp2
    (refine bodyPost_ret (by simp [results, Tryd.results18, go_sem]; try rfl) rfl ?_)
    exact ⟨rfl, by (repeat' (first | (with_reducible assumption) | (with_reducible exact Below.refl _ _) | (with_reducible refine below_drewN ?_ _) | (with_reducible refine Below.drew ?_) | (with_reducible refine Below.alloc ?_ ?_ _) | (with_reducible refine Below.setCell ?_ ?_ _) | (with_reducible refine Below.trans ?_ (Below.mono (by assumption) ?_)) | (with_reducible exact Nat.le_refl _) | (with_reducible assumption) | omega | (simp; omega) | (simp; done)))⟩
  · rw [elV_9, show fdV 9 = .agg #[.int .i64 9, .int .i64 3, .int .i64 2] from by simp [fdV, pl, plN, pr]]
    clear h
    go_enter Tryd.func18, Tryd.ntmps18
    go_wp2
    (refine wp_loop_rounds 5 ?_; repeat any_goals (rw [rounds_succ]; go_wp2))
    go_wp2
    (refine bodyPost_ret (by simp [results, Tryd.results18, go_sem]; try rfl) rfl ?_)
    exact ⟨rfl, by (repeat' (first | (with_reducible assumption) | (with_reducible exact Below.refl _ _) | (with_reducible refine below_drewN ?_ _) | (with_reducible refine Below.drew ?_) | (with_reducible refine Below.alloc ?_ ?_ _) | (with_reducible refine Below.setCell ?_ ?_ _) | (with_reducible refine Below.trans ?_ (Below.mono (by assumption) ?_)) | (with_reducible exact Nat.le_refl _) | (with_reducible assumption) | omega | (simp; omega) | (simp; done)))⟩
  · rw [elV_16, show fdV 16 = .agg #[.int .i64 16, .int .i64 2, .int .i64 4] from by simp [fdV, pl, plN, pr]]
    clear h
    go_enter Tryd.func18, Tryd.ntmps18
    go_wp2
    (refine wp_loop_rounds 5 ?_; repeat any_goals (rw [rounds_succ]; go_wp2))
    go_wp2
    (refine bodyPost_ret (by simp [results, Tryd.results18, go_sem]; try rfl) rfl ?_)
    exact ⟨rfl, by (repeat' (first | (with_reducible assumption) | (with_reducible exact Below.refl _ _) | (with_reducible refine below_drewN ?_ _) | (with_reducible refine Below.drew ?_) | (with_reducible refine Below.alloc ?_ ?_ _) | (with_reducible refine Below.setCell ?_ ?_ _) | (with_reducible refine Below.trans ?_ (Below.mono (by assumption) ?_)) | (with_reducible exact Nat.le_refl _) | (with_reducible assumption) | omega | (simp; omega) | (simp; done)))⟩

end Go.Proofs.YthklnfanbegecabDoor
