/- spec.fdSums by a contract; the model's side of the law of sums of powers. -/
import Derived.Test.YtapglncgicfjnaaKG
import Derived.Test.YtapglncgicfjnaaKC
import Derived.Test.YtapglncgicfjnaaKE
namespace Go.Proofs.Ytapglncgicfjnaa
open Go.RowKit
/-- The sum of the powers k of the first n elements. -/
def sumTo (q : Int) (k : Nat) : Nat → Int
  | 0 => 0
  | n + 1 => addF q (sumTo q k n) (pw q (n : Int) k)
theorem sumTo_bd (q : Int) (k : Nat) (h : isSz q = true) (n : Nat) (hn : (n : Int) ≤ q) : 0 ≤ sumTo q k n ∧ sumTo q k n < q := by
  have hq := isSz_le q h
  induction n with
  | zero => simp only [sumTo]; omega
  | succ n ih =>
    have h1 := ih (by omega)
    have h2 := pw_bd q (n : Int) h (by omega) (by omega) k
    exact addF_bd q _ _ h h1.1 h1.2 h2.1 h2.2
set_option maxHeartbeats 1000000 in
/-- spec.fdSums. -/
theorem fdSums_any (q k : Int) (w : World) (h : isSz q = true) (k0 : 0 ≤ k) (k1 : k ≤ 1000) :
    Calls Try.prog 102 #[.int .i64 q, .int .i64 k] w fun e w' => e = .returned (.int .i64 (sumTo q k.toNat q.toNat)) ∧ Below w.heap.size w w' := by
  have hq := isSz_le q h
  have HP := Lib.hid (fun (n : Nat) w (hn : (n : Int) < q) => fdPower_any q (n : Int) k w h (by omega) hn k0 k1)
  have HA := Lib.hid (fun (n : Nat) w (hn : (n : Int) < q) => fdPlus_any q (sumTo q k.toNat n) (pw q (n : Int) k.toNat) w h (sumTo_bd q k.toNat h n (by omega)).1 (sumTo_bd q k.toNat h n (by omega)).2 (pw_bd q (n : Int) h (by omega) hn k.toNat).1 (pw_bd q (n : Int) h (by omega) hn k.toNat).2)
  obtain ⟨m, hm⟩ := Int.eq_ofNat_of_zero_le (show 0 ≤ q by omega)
  subst hm
  rw [Int.toNat_natCast]
  generalize hkk : k.toNat = kn at *
  have HKK := Lib.hid hkk; clear hkk
  clear h
  go_enter Try.func102, Try.ntmps102
  go_wp2
  go_loopw [5, 6] (fun vs va wr => ∃ n : Nat, n ≤ m ∧ va = .int .i64 n ∧ vs = .int .i64 (sumTo (m : Int) kn n) ∧ Below w.heap.size w wr) (fun _ va _ => m - (intOf va).toNat)
  case atStart => exact ⟨0, Nat.zero_le _, rfl, rfl, Below.refl _ _⟩
  case round =>
    obtain ⟨n, hn, rfl, rfl, hb⟩ := hrel
    have hz := hb.size
    have HB := Lib.hid hb; clear hb
    by_cases hlt : n < m
    · have hnq : (n : Int) < (m : Int) := by omega
      go_wp2_with fail
      refine (HP.out n _ hnq).mono ?_
      rintro e w2 ⟨rfl, hb2⟩
      have hz_hb2 := hb2.size; (try simp at hz_hb2)
      have HB2 := Lib.hid hb2; clear hb2
      go_wp2_with fail
      refine (HA.out n _ hnq).mono ?_
      rintro e w3 ⟨rfl, hb3⟩
      have hz_hb3 := hb3.size; (try simp at hz_hb3)
      have HB3 := Lib.hid hb3; clear hb3
      go_wp2
      go_roundw
      case rel => exact ⟨n + 1, by omega, by go_num, rfl, by have hb1 := HB.out; have hb2 := HB2.out; have hb3 := HB3.out; (repeat' (first | (with_reducible assumption) | (with_reducible exact Below.refl _ _) | (with_reducible refine below_drewN ?_ _) | (with_reducible refine Below.drew ?_) | (with_reducible refine Below.alloc ?_ ?_ _) | (with_reducible refine Below.setCell ?_ ?_ _) | (with_reducible refine Below.trans ?_ (Below.mono (by assumption) ?_)) | (with_reducible exact Nat.le_refl _) | (with_reducible assumption) | omega | (simp; omega) | (simp; done)))⟩
      case measure => simp [intOf]; omega
    · obtain rfl : m = n := by omega
      go_wp2
      go_ret
      exact ⟨rfl, HB.out⟩
/-- spec.SumOfAll. -/
theorem spec_SumOfAll_yes (q k : Int) (w : World) (h : isSz q = true) (k0 : 0 ≤ k) (k1 : k ≤ 1000) :
    Calls Try.prog 44 #[.int .i64 q, .int .i64 k] w fun e w' => e = .returned (.tuple #[.int .i64 (sumTo q k.toNat q.toNat), .bool true]) ∧ Below w.heap.size w w' := by
  have HC := Lib.hid (fun w => fdSums_any q k w h k0 k1)
  go_enter Try.func44, Try.ntmps44
  go_wp2_with fail
  refine (fdSize_any _ _).mono ?_
  rintro e w1 ⟨rfl, hb1⟩
  have hz_hb1 := hb1.size; (try simp at hz_hb1)
  go_wp2_with fail
  refine (l1In_any _ _ _ _).mono ?_
  rintro e w2 ⟨rfl, rfl⟩
  go_wp2_with fail
  refine (HC.out _).mono ?_
  rintro e w3 ⟨rfl, hb3⟩
  have hz_hb3 := hb3.size; (try simp at hz_hb3)
  go_wp2
  go_ret2
  exact ⟨rfl, by (repeat' (first | (with_reducible assumption) | (with_reducible exact Below.refl _ _) | (with_reducible refine below_drewN ?_ _) | (with_reducible refine Below.drew ?_) | (with_reducible refine Below.alloc ?_ ?_ _) | (with_reducible refine Below.setCell ?_ ?_ _) | (with_reducible refine Below.trans ?_ (Below.mono (by assumption) ?_)) | (with_reducible exact Nat.le_refl _) | (with_reducible assumption) | omega | (simp; omega) | (simp; done)))⟩
theorem spec_SumOfAll_no1 (q k : Int) (w : World) (h : isSz q = false) :
    Calls Try.prog 44 #[.int .i64 q, .int .i64 k] w fun e w' => e = .returned (.tuple #[.int .i64 0, .bool false]) ∧ Below w.heap.size w w' := by
  go_enter Try.func44, Try.ntmps44
  go_wp2_with fail
  refine (fdSize_any _ _).mono ?_
  rintro e w1 ⟨rfl, hb1⟩
  have hz_hb1 := hb1.size; (try simp at hz_hb1)
  go_wp2_with fail
  go_ret2
  exact ⟨rfl, by (repeat' (first | (with_reducible assumption) | (with_reducible exact Below.refl _ _) | (with_reducible refine below_drewN ?_ _) | (with_reducible refine Below.drew ?_) | (with_reducible refine Below.alloc ?_ ?_ _) | (with_reducible refine Below.setCell ?_ ?_ _) | (with_reducible refine Below.trans ?_ (Below.mono (by assumption) ?_)) | (with_reducible exact Nat.le_refl _) | (with_reducible assumption) | omega | (simp; omega) | (simp; done)))⟩
theorem spec_SumOfAll_no2 (q k : Int) (w : World) (h : isSz q = true) (k0 : ¬ 0 ≤ k) :
    Calls Try.prog 44 #[.int .i64 q, .int .i64 k] w fun e w' => e = .returned (.tuple #[.int .i64 0, .bool false]) ∧ Below w.heap.size w w' := by
  have hd : decide (0 ≤ k) = false := by simpa using k0
  go_enter Try.func44, Try.ntmps44
  go_wp2_with fail
  refine (fdSize_any _ _).mono ?_
  rintro e w1 ⟨rfl, hb1⟩
  have hz_hb1 := hb1.size; (try simp at hz_hb1)
  go_wp2_with fail
  refine (l1In_any _ _ _ _).mono ?_
  rintro e w2 ⟨rfl, rfl⟩
  go_wp2
  go_ret2
  exact ⟨rfl, by (repeat' (first | (with_reducible assumption) | (with_reducible exact Below.refl _ _) | (with_reducible refine below_drewN ?_ _) | (with_reducible refine Below.drew ?_) | (with_reducible refine Below.alloc ?_ ?_ _) | (with_reducible refine Below.setCell ?_ ?_ _) | (with_reducible refine Below.trans ?_ (Below.mono (by assumption) ?_)) | (with_reducible exact Nat.le_refl _) | (with_reducible assumption) | omega | (simp; omega) | (simp; done)))⟩
theorem spec_SumOfAll_no3 (q k : Int) (w : World) (h : isSz q = true) (k0 : 0 ≤ k) (k1 : ¬ k ≤ 1000) :
    Calls Try.prog 44 #[.int .i64 q, .int .i64 k] w fun e w' => e = .returned (.tuple #[.int .i64 0, .bool false]) ∧ Below w.heap.size w w' := by
  have hd : decide (k ≤ 1000) = false := by simpa using k1
  go_enter Try.func44, Try.ntmps44
  go_wp2_with fail
  refine (fdSize_any _ _).mono ?_
  rintro e w1 ⟨rfl, hb1⟩
  have hz_hb1 := hb1.size; (try simp at hz_hb1)
  go_wp2_with fail
  refine (l1In_any _ _ _ _).mono ?_
  rintro e w2 ⟨rfl, rfl⟩
  go_wp2
  go_ret2
  exact ⟨rfl, by (repeat' (first | (with_reducible assumption) | (with_reducible exact Below.refl _ _) | (with_reducible refine below_drewN ?_ _) | (with_reducible refine Below.drew ?_) | (with_reducible refine Below.alloc ?_ ?_ _) | (with_reducible refine Below.setCell ?_ ?_ _) | (with_reducible refine Below.trans ?_ (Below.mono (by assumption) ?_)) | (with_reducible exact Nat.le_refl _) | (with_reducible assumption) | omega | (simp; omega) | (simp; done)))⟩
end Go.Proofs.Ytapglncgicfjnaa
