/- A bundle of texts: G. -/
import Derived.Test.YtljijnanmpajaaaGreatKB
namespace Go.Proofs.YtljijnanmpajaaaGreat
open Go.RowKit
/-- An element of the field of q = p^k with its four places. -/
abbrev elD (q p k d0 d1 d2 d3 : Int) : Value := .agg #[.int .i64 q, .int .i64 p, .int .i64 k, .int .i64 d0, .int .i64 d1, .int .i64 d2, .int .i64 d3]

set_option maxHeartbeats 1000000 in
/-- impl.element.plus. -/
theorem plus_dig (q p d0 d1 d2 d3 e0 e1 e2 e3 : Int) (k : Nat) (w : World) (k1 : 1 ≤ k) (k4 : k ≤ 4) (p2 : 2 ≤ p) (p13 : p ≤ 13)
    (a0 : 0 ≤ d0) (a1 : d0 < p) (b0 : 0 ≤ d1) (b1 : d1 < p) (c0 : 0 ≤ d2) (c1 : d2 < p) (f0 : 0 ≤ d3) (f1 : d3 < p)
    (a0' : 0 ≤ e0) (a1' : e0 < p) (b0' : 0 ≤ e1) (b1' : e1 < p) (c0' : 0 ≤ e2) (c1' : e2 < p) (f0' : 0 ≤ e3) (f1' : e3 < p) :
    Calls Tryz.prog 174 #[elD q p k d0 d1 d2 d3, elD q p k e0 e1 e2 e3] w fun e w' =>
      e = .returned (elD q p k ((d0 + e0) % p) (if k < 2 then d1 else (d1 + e1) % p) (if k < 3 then d2 else (d2 + e2) % p) (if k < 4 then d3 else (d3 + e3) % p)) ∧ Below w.heap.size w w' := by
  have hk : k = 1 ∨ k = 2 ∨ k = 3 ∨ k = 4 := by omega
  clear k1 k4
  rcases hk with rfl | rfl | rfl | rfl
  · go_enter Tryz.func174, Tryz.ntmps174
    go_wp2
    refine wp_loop_rounds 5 ?_
    iterate 1
      rw [rounds_succ]
      go_wp2
      go_region
      go_wp2
    rw [rounds_succ]
    go_wp2
    (refine bodyPost_ret (by simp [results, Tryz.results174, go_sem]; try rfl) rfl ?_)
    exact ⟨rfl, by (repeat' (first | (with_reducible assumption) | (with_reducible exact Below.refl _ _) | (with_reducible refine below_drewN ?_ _) | (with_reducible refine Below.drew ?_) | (with_reducible refine Below.alloc ?_ ?_ _) | (with_reducible refine Below.setCell ?_ ?_ _) | (with_reducible refine Below.trans ?_ (Below.mono (by assumption) ?_)) | (with_reducible exact Nat.le_refl _) | (with_reducible assumption) | omega | (simp; omega) | (simp; done)))⟩
  · go_enter Tryz.func174, Tryz.ntmps174
    go_wp2
    refine wp_loop_rounds 5 ?_
    iterate 2
      rw [rounds_succ]
      go_wp2
      go_region
      go_wp2
    rw [rounds_succ]
    go_wp2
    (refine bodyPost_ret (by simp [results, Tryz.results174, go_sem]; try rfl) rfl ?_)
    exact ⟨rfl, by (repeat' (first | (with_reducible assumption) | (with_reducible exact Below.refl _ _) | (with_reducible refine below_drewN ?_ _) | (with_reducible refine Below.drew ?_) | (with_reducible refine Below.alloc ?_ ?_ _) | (with_reducible refine Below.setCell ?_ ?_ _) | (with_reducible refine Below.trans ?_ (Below.mono (by assumption) ?_)) | (with_reducible exact Nat.le_refl _) | (with_reducible assumption) | omega | (simp; omega) | (simp; done)))⟩
  · go_enter Tryz.func174, Tryz.ntmps174
    go_wp2
    refine wp_loop_rounds 5 ?_
    iterate 3
      rw [rounds_succ]
      go_wp2
      go_region
      go_wp2
    rw [rounds_succ]
    go_wp2
    (refine bodyPost_ret (by simp [results, Tryz.results174, go_sem]; try rfl) rfl ?_)
    exact ⟨rfl, by (repeat' (first | (with_reducible assumption) | (with_reducible exact Below.refl _ _) | (with_reducible refine below_drewN ?_ _) | (with_reducible refine Below.drew ?_) | (with_reducible refine Below.alloc ?_ ?_ _) | (with_reducible refine Below.setCell ?_ ?_ _) | (with_reducible refine Below.trans ?_ (Below.mono (by assumption) ?_)) | (with_reducible exact Nat.le_refl _) | (with_reducible assumption) | omega | (simp; omega) | (simp; done)))⟩
  · go_enter Tryz.func174, Tryz.ntmps174
    go_wp2
    refine wp_loop_rounds 5 ?_
    iterate 4
      rw [rounds_succ]
      go_wp2
      go_region
      go_wp2
    rw [rounds_succ]
    go_wp2
    (refine bodyPost_ret (by simp [results, Tryz.results174, go_sem]; try rfl) rfl ?_)
    exact ⟨rfl, by (repeat' (first | (with_reducible assumption) | (with_reducible exact Below.refl _ _) | (with_reducible refine below_drewN ?_ _) | (with_reducible refine Below.drew ?_) | (with_reducible refine Below.alloc ?_ ?_ _) | (with_reducible refine Below.setCell ?_ ?_ _) | (with_reducible refine Below.trans ?_ (Below.mono (by assumption) ?_)) | (with_reducible exact Nat.le_refl _) | (with_reducible assumption) | omega | (simp; omega) | (simp; done)))⟩

set_option maxHeartbeats 1000000 in
/-- impl.element.negated. -/
theorem neg_dig (q p d0 d1 d2 d3 : Int) (k : Nat) (w : World) (k1 : 1 ≤ k) (k4 : k ≤ 4) (p2 : 2 ≤ p) (p13 : p ≤ 13)
    (a0 : 0 ≤ d0) (a1 : d0 < p) (b0 : 0 ≤ d1) (b1 : d1 < p) (c0 : 0 ≤ d2) (c1 : d2 < p) (f0 : 0 ≤ d3) (f1 : d3 < p) :
    Calls Tryz.prog 168 #[elD q p k d0 d1 d2 d3] w fun e w' =>
      e = .returned (elD q p k ((p - d0) % p) (if k < 2 then d1 else (p - d1) % p) (if k < 3 then d2 else (p - d2) % p) (if k < 4 then d3 else (p - d3) % p)) ∧ Below w.heap.size w w' := by
  have hk : k = 1 ∨ k = 2 ∨ k = 3 ∨ k = 4 := by omega
  clear k1 k4
  rcases hk with rfl | rfl | rfl | rfl
  · go_enter Tryz.func168, Tryz.ntmps168
    go_wp2
    refine wp_loop_rounds 5 ?_
    iterate 1
      rw [rounds_succ]
      go_wp2
      go_region
      go_wp2
    rw [rounds_succ]
    go_wp2
    (refine bodyPost_ret (by simp [results, Tryz.results168, go_sem]; try rfl) rfl ?_)
    exact ⟨rfl, by (repeat' (first | (with_reducible assumption) | (with_reducible exact Below.refl _ _) | (with_reducible refine below_drewN ?_ _) | (with_reducible refine Below.drew ?_) | (with_reducible refine Below.alloc ?_ ?_ _) | (with_reducible refine Below.setCell ?_ ?_ _) | (with_reducible refine Below.trans ?_ (Below.mono (by assumption) ?_)) | (with_reducible exact Nat.le_refl _) | (with_reducible assumption) | omega | (simp; omega) | (simp; done)))⟩
  · go_enter Tryz.func168, Tryz.ntmps168
    go_wp2
    refine wp_loop_rounds 5 ?_
    iterate 2
      rw [rounds_succ]
      go_wp2
      go_region
      go_wp2
    rw [rounds_succ]
    go_wp2
    (refine bodyPost_ret (by simp [results, Tryz.results168, go_sem]; try rfl) rfl ?_)
    exact ⟨rfl, by (repeat' (first | (with_reducible assumption) | (with_reducible exact Below.refl _ _) | (with_reducible refine below_drewN ?_ _) | (with_reducible refine Below.drew ?_) | (with_reducible refine Below.alloc ?_ ?_ _) | (with_reducible refine Below.setCell ?_ ?_ _) | (with_reducible refine Below.trans ?_ (Below.mono (by assumption) ?_)) | (with_reducible exact Nat.le_refl _) | (with_reducible assumption) | omega | (simp; omega) | (simp; done)))⟩
  · go_enter Tryz.func168, Tryz.ntmps168
    go_wp2
    refine wp_loop_rounds 5 ?_
    iterate 3
      rw [rounds_succ]
      go_wp2
      go_region
      go_wp2
    rw [rounds_succ]
    go_wp2
    (refine bodyPost_ret (by simp [results, Tryz.results168, go_sem]; try rfl) rfl ?_)
    exact ⟨rfl, by (repeat' (first | (with_reducible assumption) | (with_reducible exact Below.refl _ _) | (with_reducible refine below_drewN ?_ _) | (with_reducible refine Below.drew ?_) | (with_reducible refine Below.alloc ?_ ?_ _) | (with_reducible refine Below.setCell ?_ ?_ _) | (with_reducible refine Below.trans ?_ (Below.mono (by assumption) ?_)) | (with_reducible exact Nat.le_refl _) | (with_reducible assumption) | omega | (simp; omega) | (simp; done)))⟩
  · go_enter Tryz.func168, Tryz.ntmps168
    go_wp2
    refine wp_loop_rounds 5 ?_
    iterate 4
      rw [rounds_succ]
      go_wp2
      go_region
      go_wp2
    rw [rounds_succ]
    go_wp2
    (refine bodyPost_ret (by simp [results, Tryz.results168, go_sem]; try rfl) rfl ?_)
    exact ⟨rfl, by (repeat' (first | (with_reducible assumption) | (with_reducible exact Below.refl _ _) | (with_reducible refine below_drewN ?_ _) | (with_reducible refine Below.drew ?_) | (with_reducible refine Below.alloc ?_ ?_ _) | (with_reducible refine Below.setCell ?_ ?_ _) | (with_reducible refine Below.trans ?_ (Below.mono (by assumption) ?_)) | (with_reducible exact Nat.le_refl _) | (with_reducible assumption) | omega | (simp; omega) | (simp; done)))⟩

set_option maxHeartbeats 1000000 in
/-- impl.element.scaled. -/
theorem scaled_dig (q p d0 d1 d2 d3 c : Int) (k : Nat) (w : World) (k1 : 1 ≤ k) (k4 : k ≤ 4) (p2 : 2 ≤ p) (p13 : p ≤ 13) (s0 : 0 ≤ c) (s1 : c < p)
    (a0 : 0 ≤ d0) (a1 : d0 < p) (b0 : 0 ≤ d1) (b1 : d1 < p) (c0 : 0 ≤ d2) (c1 : d2 < p) (f0 : 0 ≤ d3) (f1 : d3 < p) :
    Calls Tryz.prog 205 #[elD q p k d0 d1 d2 d3, .int .i64 c] w fun e w' =>
      e = .returned (elD q p k (c * d0 % p) (if k < 2 then d1 else c * d1 % p) (if k < 3 then d2 else c * d2 % p) (if k < 4 then d3 else c * d3 % p)) ∧ Below w.heap.size w w' := by
  have hk : k = 1 ∨ k = 2 ∨ k = 3 ∨ k = 4 := by omega
  clear k1 k4
  have m0 : 0 ≤ c * d0 := Int.mul_nonneg s0 a0
  have m0' : c * d0 ≤ 13 * 13 := Int.mul_le_mul (by omega) (by omega) a0 (by omega)
  have m1 : 0 ≤ c * d1 := Int.mul_nonneg s0 b0
  have m1' : c * d1 ≤ 13 * 13 := Int.mul_le_mul (by omega) (by omega) b0 (by omega)
  have m2 : 0 ≤ c * d2 := Int.mul_nonneg s0 c0
  have m2' : c * d2 ≤ 13 * 13 := Int.mul_le_mul (by omega) (by omega) c0 (by omega)
  have m3 : 0 ≤ c * d3 := Int.mul_nonneg s0 f0
  have m3' : c * d3 ≤ 13 * 13 := Int.mul_le_mul (by omega) (by omega) f0 (by omega)
  rcases hk with rfl | rfl | rfl | rfl
  · go_enter Tryz.func205, Tryz.ntmps205
    go_wp2
    refine wp_loop_rounds 5 ?_
    iterate 1
      rw [rounds_succ]
      go_wp2
      go_region
      go_wp2
    rw [rounds_succ]
    go_wp2
    (refine bodyPost_ret (by simp [results, Tryz.results205, go_sem]; try rfl) rfl ?_)
    exact ⟨rfl, by (repeat' (first | (with_reducible assumption) | (with_reducible exact Below.refl _ _) | (with_reducible refine below_drewN ?_ _) | (with_reducible refine Below.drew ?_) | (with_reducible refine Below.alloc ?_ ?_ _) | (with_reducible refine Below.setCell ?_ ?_ _) | (with_reducible refine Below.trans ?_ (Below.mono (by assumption) ?_)) | (with_reducible exact Nat.le_refl _) | (with_reducible assumption) | omega | (simp; omega) | (simp; done)))⟩
  · go_enter Tryz.func205, Tryz.ntmps205
    go_wp2
    refine wp_loop_rounds 5 ?_
    iterate 2
      rw [rounds_succ]
      go_wp2
      go_region
      go_wp2
    rw [rounds_succ]
    go_wp2
    (refine bodyPost_ret (by simp [results, Tryz.results205, go_sem]; try rfl) rfl ?_)
    exact ⟨rfl, by (repeat' (first | (with_reducible assumption) | (with_reducible exact Below.refl _ _) | (with_reducible refine below_drewN ?_ _) | (with_reducible refine Below.drew ?_) | (with_reducible refine Below.alloc ?_ ?_ _) | (with_reducible refine Below.setCell ?_ ?_ _) | (with_reducible refine Below.trans ?_ (Below.mono (by assumption) ?_)) | (with_reducible exact Nat.le_refl _) | (with_reducible assumption) | omega | (simp; omega) | (simp; done)))⟩
  · go_enter Tryz.func205, Tryz.ntmps205
    go_wp2
    refine wp_loop_rounds 5 ?_
    iterate 3
      rw [rounds_succ]
      go_wp2
      go_region
      go_wp2
    rw [rounds_succ]
    go_wp2
    (refine bodyPost_ret (by simp [results, Tryz.results205, go_sem]; try rfl) rfl ?_)
    exact ⟨rfl, by (repeat' (first | (with_reducible assumption) | (with_reducible exact Below.refl _ _) | (with_reducible refine below_drewN ?_ _) | (with_reducible refine Below.drew ?_) | (with_reducible refine Below.alloc ?_ ?_ _) | (with_reducible refine Below.setCell ?_ ?_ _) | (with_reducible refine Below.trans ?_ (Below.mono (by assumption) ?_)) | (with_reducible exact Nat.le_refl _) | (with_reducible assumption) | omega | (simp; omega) | (simp; done)))⟩
  · go_enter Tryz.func205, Tryz.ntmps205
    go_wp2
    refine wp_loop_rounds 5 ?_
    iterate 4
      rw [rounds_succ]
      go_wp2
      go_region
      go_wp2
    rw [rounds_succ]
    go_wp2
    (refine bodyPost_ret (by simp [results, Tryz.results205, go_sem]; try rfl) rfl ?_)
    exact ⟨rfl, by (repeat' (first | (with_reducible assumption) | (with_reducible exact Below.refl _ _) | (with_reducible refine below_drewN ?_ _) | (with_reducible refine Below.drew ?_) | (with_reducible refine Below.alloc ?_ ?_ _) | (with_reducible refine Below.setCell ?_ ?_ _) | (with_reducible refine Below.trans ?_ (Below.mono (by assumption) ?_)) | (with_reducible exact Nat.le_refl _) | (with_reducible assumption) | omega | (simp; omega) | (simp; done)))⟩
end Go.Proofs.YtljijnanmpajaaaGreat
