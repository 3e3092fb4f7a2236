/- spec.fdPrime and impl.fieldOf by contracts: every size is walked. -/
import Derived.Test.YthklnfanbegecacDoorA
namespace Go.Proofs.YthklnfanbegecacDoor
open Go.RowKit

set_option maxHeartbeats 4000000 in
/-- impl.fieldOf at a size. -/
theorem fieldOf_yes (q : Int) (w : World) (h : isSz q = true) :
    Calls Tryd.prog 10 #[.int .i64 q] w fun e w' => e = .returned (.tuple #[.agg #[.int .i64 q, .int .i64 (pr q), .int .i64 (pl q)], .bool true]) ∧ Below w.heap.size w w' := by
  have hq := sz_split q h
  clear h
  rcases hq with rfl | rfl | rfl | rfl | rfl | rfl | rfl | rfl | rfl | rfl
  all_goals
    go_enter Tryd.func10, Tryd.ntmps10
    go_wp2
    (refine wp_loop_rounds 13 ?_; repeat any_goals (rw [rounds_succ]; go_wp2))
    go_wp2
    (refine wp_loop_rounds 6 ?_; repeat any_goals (rw [rounds_succ]; go_wp2))
    go_wp2
    (refine bodyPost_ret (by simp [results, Tryd.results10, go_sem]; try rfl) rfl ?_)
    exact ⟨rfl, by (repeat' (first | (with_reducible assumption) | (with_reducible exact Below.refl _ _) | (with_reducible refine below_drewN ?_ _) | (with_reducible refine Below.drew ?_) | (with_reducible refine Below.alloc ?_ ?_ _) | (with_reducible refine Below.setCell ?_ ?_ _) | (with_reducible refine Below.trans ?_ (Below.mono (by assumption) ?_)) | (with_reducible exact Nat.le_refl _) | (with_reducible assumption) | omega | (simp; omega) | (simp; done)))⟩

set_option maxHeartbeats 4000000 in
/-- impl.fieldOf elsewhere. -/
theorem fieldOf_no (q : Int) (w : World) (h : isSz q = false) :
    Calls Tryd.prog 10 #[.int .i64 q] w fun e w' => e = .returned (.tuple #[.agg #[.int .i64 0, .int .i64 0, .int .i64 0], .bool false]) ∧ Below w.heap.size w w' := by
  have hq := nsz_split q h
  clear h
  rcases hq with hq | rfl | rfl | rfl | rfl | rfl | hq
  · go_enter Tryd.func10, Tryd.ntmps10
    go_wp2
    (refine bodyPost_ret (by simp [results, Tryd.results10, go_sem]; try rfl) rfl ?_)
    exact ⟨rfl, by (repeat' (first | (with_reducible assumption) | (with_reducible exact Below.refl _ _) | (with_reducible refine below_drewN ?_ _) | (with_reducible refine Below.drew ?_) | (with_reducible refine Below.alloc ?_ ?_ _) | (with_reducible refine Below.setCell ?_ ?_ _) | (with_reducible refine Below.trans ?_ (Below.mono (by assumption) ?_)) | (with_reducible exact Nat.le_refl _) | (with_reducible assumption) | omega | (simp; omega) | (simp; done)))⟩
  iterate 5
    · go_enter Tryd.func10, Tryd.ntmps10
      go_wp2
      (refine wp_loop_rounds 13 ?_; repeat any_goals (rw [rounds_succ]; go_wp2))
      go_wp2
      (refine wp_loop_rounds 6 ?_; repeat any_goals (rw [rounds_succ]; go_wp2))
      go_wp2
      (refine bodyPost_ret (by simp [results, Tryd.results10, go_sem]; try rfl) rfl ?_)
      exact ⟨rfl, by (repeat' (first | (with_reducible assumption) | (with_reducible exact Below.refl _ _) | (with_reducible refine below_drewN ?_ _) | (with_reducible refine Below.drew ?_) | (with_reducible refine Below.alloc ?_ ?_ _) | (with_reducible refine Below.setCell ?_ ?_ _) | (with_reducible refine Below.trans ?_ (Below.mono (by assumption) ?_)) | (with_reducible exact Nat.le_refl _) | (with_reducible assumption) | omega | (simp; omega) | (simp; done)))⟩
  · have hq' : ¬ q < 2 := by omega
    go_enter Tryd.func10, Tryd.ntmps10
    go_wp2
    (refine bodyPost_ret (by simp [results, Tryd.results10, go_sem]; try rfl) rfl ?_)
    exact ⟨rfl, by (repeat' (first | (with_reducible assumption) | (with_reducible exact Below.refl _ _) | (with_reducible refine below_drewN ?_ _) | (with_reducible refine Below.drew ?_) | (with_reducible refine Below.alloc ?_ ?_ _) | (with_reducible refine Below.setCell ?_ ?_ _) | (with_reducible refine Below.trans ?_ (Below.mono (by assumption) ?_)) | (with_reducible exact Nat.le_refl _) | (with_reducible assumption) | omega | (simp; omega) | (simp; done)))⟩
end Go.Proofs.YthklnfanbegecacDoor
