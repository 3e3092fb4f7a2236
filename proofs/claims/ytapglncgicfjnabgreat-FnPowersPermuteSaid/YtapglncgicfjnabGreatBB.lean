/- The walk of the law of powers. -/
import Derived.Test.YtapglncgicfjnabGreatKG
namespace Go.Proofs.YtapglncgicfjnabGreat
open Go.RowKit
/-- What powers are asked of. -/
def inP (q a k : Int) : Bool := inE q a && (decide (-1000 ≤ k) && (decide (k ≤ 1000) && !(decide (k < 0) && decide (a = 0))))
/-- The power, where there is one. -/
def powR (q a k : Int) : Int := if k < 0 then pw q (invF q a) (-k).toNat else pw q a k.toNat
theorem powR_bd (q a k : Int) (h : isSz q = true) (a0 : 0 ≤ a) (a1 : a < q) : 0 ≤ powR q a k ∧ powR q a k < q := by
  unfold powR
  split
  · have hb := invF_bd q a h a0 a1
    exact pw_bd q _ h hb.1 hb.2 _
  · exact pw_bd q a h a0 a1 _
theorem inP_yes {q a k : Int} (h : inP q a k = true) : inE q a = true ∧ -1000 ≤ k ∧ k ≤ 1000 ∧ (k < 0 → a ≠ 0) := by
  simp only [inP, Bool.and_eq_true, decide_eq_true_eq, Bool.not_eq_true', Bool.and_eq_false_iff, decide_eq_false_iff_not] at h
  obtain ⟨h1, h2, h3, h4⟩ := h
  exact ⟨h1, h2, h3, fun hk => by rcases h4 with h4 | h4; exact absurd hk h4; exact h4⟩
theorem inP_no {q a k : Int} (h : inP q a k = false) : inE q a = false ∨ inE q a = true ∧ k < -1000 ∨ inE q a = true ∧ -1000 ≤ k ∧ 1000 < k ∨ inE q a = true ∧ -1000 ≤ k ∧ k < 0 ∧ a = 0 := by
  cases hi : inE q a with
  | false => exact .inl rfl
  | true =>
    simp only [inP, hi, Bool.true_and, Bool.and_eq_false_iff, decide_eq_false_iff_not, Bool.not_eq_false', Bool.and_eq_true, decide_eq_true_eq] at h
    rcases h with h | h | h
    · exact .inr (.inl ⟨rfl, by omega⟩)
    · by_cases h1 : k < -1000
      · exact .inr (.inl ⟨rfl, h1⟩)
      · exact .inr (.inr (.inl ⟨rfl, by omega, by omega⟩))
    · by_cases h1 : k < -1000
      · exact .inr (.inl ⟨rfl, h1⟩)
      · exact .inr (.inr (.inr ⟨rfl, by omega, h.1, h.2⟩))

set_option maxHeartbeats 1000000 in
theorem impl_PowerOf_neg (q a k : Int) (w : World) (ha : inE q a = true) (k0 : -1000 ≤ k) (k1 : k < 0) (hz : a ≠ 0) :
    Calls Tryz.prog 32 #[.int .i64 q, .int .i64 a, .int .i64 k] w fun e w' => e = .returned (.tuple #[.int .i64 (powR q a k), .bool true]) ∧ Below w.heap.size w w' := by
  obtain ⟨hs, a0, a1⟩ := inE_yes ha
  have hi := pw_bd q a hs a0 a1 (q - 2).toNat
  have hk2 : ¬ 1000 < k := by omega
  have hk3 : ¬ k < -1000 := by omega
  have HE := Lib.hid (fun w => elementOf_yes q a w ha)
  have HZ := Lib.hid (fun w => isZeroE q a w hs a0 a1)
  have hd : decide (a = 0) = false := by simpa using hz
  simp only [hd] at HZ
  have HI := Lib.hid (fun w => inverseE q a w hs a0 a1)
  have HP := Lib.hid (fun w => powerE q (pw q a (q - 2).toNat) (-k) w hs hi.1 hi.2 (by omega) (by omega))
  have HR : Hid (powR q a k = pw q (pw q a (q - 2).toNat) (-k).toNat) := Lib.hid (if_pos k1)
  have HN := Lib.hid (fun w => numberE q (pw q (pw q a (q - 2).toNat) (-k).toNat) w hs (pw_bd q _ hs hi.1 hi.2 _).1 (pw_bd q _ hs hi.1 hi.2 _).2)
  clear hs hz hi hd ha
  go_enter Tryz.func32, Tryz.ntmps32
  go_wp2_with fail
  refine (HE.out _).mono ?_
  rintro e w1 ⟨rfl, hb1⟩
  obtain ⟨hc1, hf1⟩ := bcell hb1; have hz1 := hb1.size; (try simp at hz1); have HB1 := Lib.hid hb1; clear hb1
  go_wp2_with fail
  refine (HZ.out _).mono ?_
  rintro e w2 ⟨rfl, hb2⟩
  obtain ⟨hc2, hf2⟩ := bcell hb2; have hz2 := hb2.size; (try simp at hz2); have HB2 := Lib.hid hb2; clear hb2
  have l2 : w1.heap.size < w2.heap.size := by omega
  go_wp2_with fail
  refine (HI.out _).mono ?_
  rintro e w3 ⟨rfl, hb3⟩
  obtain ⟨hc3, hf3⟩ := bcell hb3; have hz3 := hb3.size; (try simp at hz3); have HB3 := Lib.hid hb3; clear hb3
  go_wp2_with fail
  refine (HP.out _).mono ?_
  rintro e w4 ⟨rfl, hb4⟩
  obtain ⟨hc4, hf4⟩ := bcell hb4; have hz4 := hb4.size; (try simp at hz4); have HB4 := Lib.hid hb4; clear hb4
  go_wp2_with fail
  refine (HN.out _).mono ?_
  rintro e w5 ⟨rfl, hb5⟩
  obtain ⟨hc5, hf5⟩ := bcell hb5; have hz5 := hb5.size; (try simp at hz5); have HB5 := Lib.hid hb5; clear hb5
  go_wp2
  go_ret2
  have hb1 := HB1.out
  have hb2 := HB2.out
  have hb3 := HB3.out
  have hb4 := HB4.out
  have hb5 := HB5.out
  exact ⟨by rw [HR.out]; rfl, by (repeat' (first | (with_reducible assumption) | (with_reducible exact Below.refl _ _) | (with_reducible refine below_drewN ?_ _) | (with_reducible refine Below.drew ?_) | (with_reducible refine Below.alloc ?_ ?_ _) | (with_reducible refine Below.setCell ?_ ?_ _) | (with_reducible refine Below.trans ?_ (Below.mono (by assumption) ?_)) | (with_reducible exact Nat.le_refl _) | (with_reducible assumption) | omega | (simp; omega) | (simp; done)))⟩

set_option maxHeartbeats 1000000 in
theorem impl_PowerOf_pos (q a k : Int) (w : World) (ha : inE q a = true) (k0 : 0 ≤ k) (k1 : k ≤ 1000) :
    Calls Tryz.prog 32 #[.int .i64 q, .int .i64 a, .int .i64 k] w fun e w' => e = .returned (.tuple #[.int .i64 (powR q a k), .bool true]) ∧ Below w.heap.size w w' := by
  obtain ⟨hs, a0, a1⟩ := inE_yes ha
  have hk2 : ¬ 1000 < k := by omega
  have hk3 : ¬ k < -1000 := by omega
  have hk4 : ¬ k < 0 := by omega
  have HE := Lib.hid (fun w => elementOf_yes q a w ha)
  have HP := Lib.hid (fun w => powerE q a k w hs a0 a1 k0 k1)
  have HR : Hid (powR q a k = pw q a k.toNat) := Lib.hid (if_neg hk4)
  have HN := Lib.hid (fun w => numberE q (pw q a k.toNat) w hs (pw_bd q a hs a0 a1 _).1 (pw_bd q a hs a0 a1 _).2)
  clear hs ha
  go_enter Tryz.func32, Tryz.ntmps32
  go_wp2_with fail
  refine (HE.out _).mono ?_
  rintro e w1 ⟨rfl, hb1⟩
  obtain ⟨hc1, hf1⟩ := bcell hb1; have hz1 := hb1.size; (try simp at hz1); have HB1 := Lib.hid hb1; clear hb1
  go_wp2_with fail
  refine (HP.out _).mono ?_
  rintro e w4 ⟨rfl, hb4⟩
  obtain ⟨hc4, hf4⟩ := bcell hb4; have hz4 := hb4.size; (try simp at hz4); have HB4 := Lib.hid hb4; clear hb4
  go_wp2_with fail
  refine (HN.out _).mono ?_
  rintro e w5 ⟨rfl, hb5⟩
  obtain ⟨hc5, hf5⟩ := bcell hb5; have hz5 := hb5.size; (try simp at hz5); have HB5 := Lib.hid hb5; clear hb5
  go_wp2
  go_ret2
  have hb1 := HB1.out
  have hb4 := HB4.out
  have hb5 := HB5.out
  exact ⟨by rw [HR.out]; rfl, by (repeat' (first | (with_reducible assumption) | (with_reducible exact Below.refl _ _) | (with_reducible refine below_drewN ?_ _) | (with_reducible refine Below.drew ?_) | (with_reducible refine Below.alloc ?_ ?_ _) | (with_reducible refine Below.setCell ?_ ?_ _) | (with_reducible refine Below.trans ?_ (Below.mono (by assumption) ?_)) | (with_reducible exact Nat.le_refl _) | (with_reducible assumption) | omega | (simp; omega) | (simp; done)))⟩

set_option maxHeartbeats 1000000 in
theorem impl_PowerOf_no1 (q a k : Int) (w : World) (ha : inE q a = false) :
    Calls Tryz.prog 32 #[.int .i64 q, .int .i64 a, .int .i64 k] w fun e w' => e = .returned (.tuple #[.int .i64 0, .bool false]) ∧ Below w.heap.size w w' := by
  have HE := Lib.hid (fun w => elementOf_no q a w ha)
  clear ha
  go_enter Tryz.func32, Tryz.ntmps32
  go_wp2_with fail
  refine (HE.out _).mono ?_
  rintro e w1 ⟨rfl, hb1⟩
  obtain ⟨hc1, hf1⟩ := bcell hb1; have hz1 := hb1.size; (try simp at hz1); have HB1 := Lib.hid hb1; clear hb1
  go_wp2
  go_ret2
  have hb1 := HB1.out
  exact ⟨rfl, by (repeat' (first | (with_reducible assumption) | (with_reducible exact Below.refl _ _) | (with_reducible refine below_drewN ?_ _) | (with_reducible refine Below.drew ?_) | (with_reducible refine Below.alloc ?_ ?_ _) | (with_reducible refine Below.setCell ?_ ?_ _) | (with_reducible refine Below.trans ?_ (Below.mono (by assumption) ?_)) | (with_reducible exact Nat.le_refl _) | (with_reducible assumption) | omega | (simp; omega) | (simp; done)))⟩

set_option maxHeartbeats 1000000 in
theorem impl_PowerOf_no2 (q a k : Int) (w : World) (ha : inE q a = true) (k0 : k < -1000) :
    Calls Tryz.prog 32 #[.int .i64 q, .int .i64 a, .int .i64 k] w fun e w' => e = .returned (.tuple #[.int .i64 0, .bool false]) ∧ Below w.heap.size w w' := by
  have HE := Lib.hid (fun w => elementOf_yes q a w ha)
  clear ha
  go_enter Tryz.func32, Tryz.ntmps32
  go_wp2_with fail
  refine (HE.out _).mono ?_
  rintro e w1 ⟨rfl, hb1⟩
  obtain ⟨hc1, hf1⟩ := bcell hb1; have hz1 := hb1.size; (try simp at hz1); have HB1 := Lib.hid hb1; clear hb1
  go_wp2
  go_ret2
  have hb1 := HB1.out
  exact ⟨rfl, by (repeat' (first | (with_reducible assumption) | (with_reducible exact Below.refl _ _) | (with_reducible refine below_drewN ?_ _) | (with_reducible refine Below.drew ?_) | (with_reducible refine Below.alloc ?_ ?_ _) | (with_reducible refine Below.setCell ?_ ?_ _) | (with_reducible refine Below.trans ?_ (Below.mono (by assumption) ?_)) | (with_reducible exact Nat.le_refl _) | (with_reducible assumption) | omega | (simp; omega) | (simp; done)))⟩

set_option maxHeartbeats 1000000 in
theorem impl_PowerOf_no3 (q a k : Int) (w : World) (ha : inE q a = true) (k0 : -1000 ≤ k) (k1 : 1000 < k) :
    Calls Tryz.prog 32 #[.int .i64 q, .int .i64 a, .int .i64 k] w fun e w' => e = .returned (.tuple #[.int .i64 0, .bool false]) ∧ Below w.heap.size w w' := by
  have hk : ¬ k < -1000 := by omega
  have HE := Lib.hid (fun w => elementOf_yes q a w ha)
  clear ha
  go_enter Tryz.func32, Tryz.ntmps32
  go_wp2_with fail
  refine (HE.out _).mono ?_
  rintro e w1 ⟨rfl, hb1⟩
  obtain ⟨hc1, hf1⟩ := bcell hb1; have hz1 := hb1.size; (try simp at hz1); have HB1 := Lib.hid hb1; clear hb1
  go_wp2
  go_ret2
  have hb1 := HB1.out
  exact ⟨rfl, by (repeat' (first | (with_reducible assumption) | (with_reducible exact Below.refl _ _) | (with_reducible refine below_drewN ?_ _) | (with_reducible refine Below.drew ?_) | (with_reducible refine Below.alloc ?_ ?_ _) | (with_reducible refine Below.setCell ?_ ?_ _) | (with_reducible refine Below.trans ?_ (Below.mono (by assumption) ?_)) | (with_reducible exact Nat.le_refl _) | (with_reducible assumption) | omega | (simp; omega) | (simp; done)))⟩

set_option maxHeartbeats 1000000 in
theorem impl_PowerOf_no4 (q a k : Int) (w : World) (ha : inE q a = true) (k0 : -1000 ≤ k) (k1 : k < 0) (hz : a = 0) :
    Calls Tryz.prog 32 #[.int .i64 q, .int .i64 a, .int .i64 k] w fun e w' => e = .returned (.tuple #[.int .i64 0, .bool false]) ∧ Below w.heap.size w w' := by
  obtain ⟨hs, a0, a1⟩ := inE_yes ha
  have hk2 : ¬ 1000 < k := by omega
  have hk3 : ¬ k < -1000 := by omega
  have HE := Lib.hid (fun w => elementOf_yes q a w ha)
  have HZ := Lib.hid (fun w => isZeroE q a w hs a0 a1)
  have hd : decide (a = 0) = true := by simpa using hz
  simp only [hd] at HZ
  clear hs hz hd ha
  go_enter Tryz.func32, Tryz.ntmps32
  go_wp2_with fail
  refine (HE.out _).mono ?_
  rintro e w1 ⟨rfl, hb1⟩
  obtain ⟨hc1, hf1⟩ := bcell hb1; have hz1 := hb1.size; (try simp at hz1); have HB1 := Lib.hid hb1; clear hb1
  go_wp2_with fail
  refine (HZ.out _).mono ?_
  rintro e w2 ⟨rfl, hb2⟩
  obtain ⟨hc2, hf2⟩ := bcell hb2; have hz2 := hb2.size; (try simp at hz2); have HB2 := Lib.hid hb2; clear hb2
  have l2 : w1.heap.size < w2.heap.size := by omega
  go_wp2
  go_ret2
  have hb1 := HB1.out
  have hb2 := HB2.out
  exact ⟨rfl, by (repeat' (first | (with_reducible assumption) | (with_reducible exact Below.refl _ _) | (with_reducible refine below_drewN ?_ _) | (with_reducible refine Below.drew ?_) | (with_reducible refine Below.alloc ?_ ?_ _) | (with_reducible refine Below.setCell ?_ ?_ _) | (with_reducible refine Below.trans ?_ (Below.mono (by assumption) ?_)) | (with_reducible exact Nat.le_refl _) | (with_reducible assumption) | omega | (simp; omega) | (simp; done)))⟩

end Go.Proofs.YtapglncgicfjnabGreat
