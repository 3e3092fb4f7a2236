/- The walks of the laws of sums and differences. -/
import Derived.Test.YtpjlolnnbbgikaaKE
namespace Go.Proofs.Ytpjlolnnbbgikaa
open Go.RowKit

set_option maxHeartbeats 1000000 in
/-- impl.PlusOf. -/
theorem impl_PlusOf_yes (q a b : Int) (w : World) (ha : inE q a = true) (hb : inE q b = true) :
    Calls Try.prog 16 #[.int .i64 q, .int .i64 a, .int .i64 b] w fun e w' => e = .returned (.tuple #[.int .i64 (addF q a b), .bool true]) ∧ Below w.heap.size w w' := by
  have hf := addF_bd q a b (inE_yes ha).1 (inE_yes ha).2.1 (inE_yes ha).2.2 (inE_yes hb).2.1 (inE_yes hb).2.2
  have HC := Lib.hid (fun w => plusE q a b w (inE_yes ha).1 (inE_yes ha).2.1 (inE_yes ha).2.2 (inE_yes hb).2.1 (inE_yes hb).2.2)
  have HN := Lib.hid (fun w => numberE q (addF q a b) w (inE_yes ha).1 hf.1 hf.2)
  have HP := Lib.hid (fun w => pairOf_yes q a b w ha hb)
  clear hf ha hb
  go_enter Try.func16, Try.ntmps16
  go_wp2_with fail
  refine (HP.out _).mono ?_
  rintro e w1 ⟨rfl, hb1⟩
  have hz_hb1 := hb1.size; (try simp at hz_hb1)
  have HB1 := Lib.hid hb1; clear hb1
  go_wp2_with fail
  refine (HC.out _).mono ?_
  rintro e w2 ⟨rfl, hb2⟩
  have hz_hb2 := hb2.size; (try simp at hz_hb2)
  have HB2 := Lib.hid hb2; clear hb2
  go_wp2_with fail
  refine (HN.out _).mono ?_
  rintro e w3 ⟨rfl, hb3⟩
  have hz_hb3 := hb3.size; (try simp at hz_hb3)
  have HB3 := Lib.hid hb3; clear hb3
  go_wp2
  go_ret2
  have hb1 := HB1.out
  have hb2 := HB2.out
  have hb3 := HB3.out
  exact ⟨rfl, by (repeat' (first | (with_reducible assumption) | (with_reducible exact Below.refl _ _) | (with_reducible refine below_drewN ?_ _) | (with_reducible refine Below.drew ?_) | (with_reducible refine Below.alloc ?_ ?_ _) | (with_reducible refine Below.setCell ?_ ?_ _) | (with_reducible refine Below.trans ?_ (Below.mono (by assumption) ?_)) | (with_reducible exact Nat.le_refl _) | (with_reducible assumption) | omega | (simp; omega) | (simp; done)))⟩
theorem impl_PlusOf_no1 (q a b : Int) (w : World) (ha : inE q a = false) (hb : inE q b = false) :
    Calls Try.prog 16 #[.int .i64 q, .int .i64 a, .int .i64 b] w fun e w' => e = .returned (.tuple #[.int .i64 0, .bool false]) ∧ Below w.heap.size w w' := by
  have HP := Lib.hid (fun w => pairOf_no1 q a b w ha hb)
  clear ha hb
  go_enter Try.func16, Try.ntmps16
  go_wp2_with fail
  refine (HP.out _).mono ?_
  rintro e w1 ⟨rfl, hb1⟩
  have hz_hb1 := hb1.size; (try simp at hz_hb1)
  have HB1 := Lib.hid hb1; clear hb1
  go_wp2_with fail
  go_ret2
  have hb1 := HB1.out
  exact ⟨rfl, by (repeat' (first | (with_reducible assumption) | (with_reducible exact Below.refl _ _) | (with_reducible refine below_drewN ?_ _) | (with_reducible refine Below.drew ?_) | (with_reducible refine Below.alloc ?_ ?_ _) | (with_reducible refine Below.setCell ?_ ?_ _) | (with_reducible refine Below.trans ?_ (Below.mono (by assumption) ?_)) | (with_reducible exact Nat.le_refl _) | (with_reducible assumption) | omega | (simp; omega) | (simp; done)))⟩
theorem impl_PlusOf_no2 (q a b : Int) (w : World) (ha : inE q a = false) (hb : inE q b = true) :
    Calls Try.prog 16 #[.int .i64 q, .int .i64 a, .int .i64 b] w fun e w' => e = .returned (.tuple #[.int .i64 0, .bool false]) ∧ Below w.heap.size w w' := by
  have HP := Lib.hid (fun w => pairOf_no2 q a b w ha hb)
  clear ha hb
  go_enter Try.func16, Try.ntmps16
  go_wp2_with fail
  refine (HP.out _).mono ?_
  rintro e w1 ⟨rfl, hb1⟩
  have hz_hb1 := hb1.size; (try simp at hz_hb1)
  have HB1 := Lib.hid hb1; clear hb1
  go_wp2_with fail
  go_ret2
  have hb1 := HB1.out
  exact ⟨rfl, by (repeat' (first | (with_reducible assumption) | (with_reducible exact Below.refl _ _) | (with_reducible refine below_drewN ?_ _) | (with_reducible refine Below.drew ?_) | (with_reducible refine Below.alloc ?_ ?_ _) | (with_reducible refine Below.setCell ?_ ?_ _) | (with_reducible refine Below.trans ?_ (Below.mono (by assumption) ?_)) | (with_reducible exact Nat.le_refl _) | (with_reducible assumption) | omega | (simp; omega) | (simp; done)))⟩
theorem impl_PlusOf_no3 (q a b : Int) (w : World) (ha : inE q a = true) (hb : inE q b = false) :
    Calls Try.prog 16 #[.int .i64 q, .int .i64 a, .int .i64 b] w fun e w' => e = .returned (.tuple #[.int .i64 0, .bool false]) ∧ Below w.heap.size w w' := by
  have HP := Lib.hid (fun w => pairOf_no3 q a b w ha hb)
  clear ha hb
  go_enter Try.func16, Try.ntmps16
  go_wp2_with fail
  refine (HP.out _).mono ?_
  rintro e w1 ⟨rfl, hb1⟩
  have hz_hb1 := hb1.size; (try simp at hz_hb1)
  have HB1 := Lib.hid hb1; clear hb1
  go_wp2_with fail
  go_ret2
  have hb1 := HB1.out
  exact ⟨rfl, by (repeat' (first | (with_reducible assumption) | (with_reducible exact Below.refl _ _) | (with_reducible refine below_drewN ?_ _) | (with_reducible refine Below.drew ?_) | (with_reducible refine Below.alloc ?_ ?_ _) | (with_reducible refine Below.setCell ?_ ?_ _) | (with_reducible refine Below.trans ?_ (Below.mono (by assumption) ?_)) | (with_reducible exact Nat.le_refl _) | (with_reducible assumption) | omega | (simp; omega) | (simp; done)))⟩

set_option maxHeartbeats 1000000 in
/-- impl.LessOf. -/
theorem impl_LessOf_yes (q a b : Int) (w : World) (ha : inE q a = true) (hb : inE q b = true) :
    Calls Try.prog 20 #[.int .i64 q, .int .i64 a, .int .i64 b] w fun e w' => e = .returned (.tuple #[.int .i64 (subF q a b), .bool true]) ∧ Below w.heap.size w w' := by
  have hf := subF_bd q a b (inE_yes ha).1 (inE_yes ha).2.1 (inE_yes ha).2.2 (inE_yes hb).2.1 (inE_yes hb).2.2
  have HC := Lib.hid (fun w => minusE q a b w (inE_yes ha).1 (inE_yes ha).2.1 (inE_yes ha).2.2 (inE_yes hb).2.1 (inE_yes hb).2.2)
  have HN := Lib.hid (fun w => numberE q (subF q a b) w (inE_yes ha).1 hf.1 hf.2)
  have HP := Lib.hid (fun w => pairOf_yes q a b w ha hb)
  clear hf ha hb
  go_enter Try.func20, Try.ntmps20
  go_wp2_with fail
  refine (HP.out _).mono ?_
  rintro e w1 ⟨rfl, hb1⟩
  have hz_hb1 := hb1.size; (try simp at hz_hb1)
  have HB1 := Lib.hid hb1; clear hb1
  go_wp2_with fail
  refine (HC.out _).mono ?_
  rintro e w2 ⟨rfl, hb2⟩
  have hz_hb2 := hb2.size; (try simp at hz_hb2)
  have HB2 := Lib.hid hb2; clear hb2
  go_wp2_with fail
  refine (HN.out _).mono ?_
  rintro e w3 ⟨rfl, hb3⟩
  have hz_hb3 := hb3.size; (try simp at hz_hb3)
  have HB3 := Lib.hid hb3; clear hb3
  go_wp2
  go_ret2
  have hb1 := HB1.out
  have hb2 := HB2.out
  have hb3 := HB3.out
  exact ⟨rfl, by (repeat' (first | (with_reducible assumption) | (with_reducible exact Below.refl _ _) | (with_reducible refine below_drewN ?_ _) | (with_reducible refine Below.drew ?_) | (with_reducible refine Below.alloc ?_ ?_ _) | (with_reducible refine Below.setCell ?_ ?_ _) | (with_reducible refine Below.trans ?_ (Below.mono (by assumption) ?_)) | (with_reducible exact Nat.le_refl _) | (with_reducible assumption) | omega | (simp; omega) | (simp; done)))⟩
theorem impl_LessOf_no1 (q a b : Int) (w : World) (ha : inE q a = false) (hb : inE q b = false) :
    Calls Try.prog 20 #[.int .i64 q, .int .i64 a, .int .i64 b] w fun e w' => e = .returned (.tuple #[.int .i64 0, .bool false]) ∧ Below w.heap.size w w' := by
  have HP := Lib.hid (fun w => pairOf_no1 q a b w ha hb)
  clear ha hb
  go_enter Try.func20, Try.ntmps20
  go_wp2_with fail
  refine (HP.out _).mono ?_
  rintro e w1 ⟨rfl, hb1⟩
  have hz_hb1 := hb1.size; (try simp at hz_hb1)
  have HB1 := Lib.hid hb1; clear hb1
  go_wp2_with fail
  go_ret2
  have hb1 := HB1.out
  exact ⟨rfl, by (repeat' (first | (with_reducible assumption) | (with_reducible exact Below.refl _ _) | (with_reducible refine below_drewN ?_ _) | (with_reducible refine Below.drew ?_) | (with_reducible refine Below.alloc ?_ ?_ _) | (with_reducible refine Below.setCell ?_ ?_ _) | (with_reducible refine Below.trans ?_ (Below.mono (by assumption) ?_)) | (with_reducible exact Nat.le_refl _) | (with_reducible assumption) | omega | (simp; omega) | (simp; done)))⟩
theorem impl_LessOf_no2 (q a b : Int) (w : World) (ha : inE q a = false) (hb : inE q b = true) :
    Calls Try.prog 20 #[.int .i64 q, .int .i64 a, .int .i64 b] w fun e w' => e = .returned (.tuple #[.int .i64 0, .bool false]) ∧ Below w.heap.size w w' := by
  have HP := Lib.hid (fun w => pairOf_no2 q a b w ha hb)
  clear ha hb
  go_enter Try.func20, Try.ntmps20
  go_wp2_with fail
  refine (HP.out _).mono ?_
  rintro e w1 ⟨rfl, hb1⟩
  have hz_hb1 := hb1.size; (try simp at hz_hb1)
  have HB1 := Lib.hid hb1; clear hb1
  go_wp2_with fail
  go_ret2
  have hb1 := HB1.out
  exact ⟨rfl, by (repeat' (first | (with_reducible assumption) | (with_reducible exact Below.refl _ _) | (with_reducible refine below_drewN ?_ _) | (with_reducible refine Below.drew ?_) | (with_reducible refine Below.alloc ?_ ?_ _) | (with_reducible refine Below.setCell ?_ ?_ _) | (with_reducible refine Below.trans ?_ (Below.mono (by assumption) ?_)) | (with_reducible exact Nat.le_refl _) | (with_reducible assumption) | omega | (simp; omega) | (simp; done)))⟩
theorem impl_LessOf_no3 (q a b : Int) (w : World) (ha : inE q a = true) (hb : inE q b = false) :
    Calls Try.prog 20 #[.int .i64 q, .int .i64 a, .int .i64 b] w fun e w' => e = .returned (.tuple #[.int .i64 0, .bool false]) ∧ Below w.heap.size w w' := by
  have HP := Lib.hid (fun w => pairOf_no3 q a b w ha hb)
  clear ha hb
  go_enter Try.func20, Try.ntmps20
  go_wp2_with fail
  refine (HP.out _).mono ?_
  rintro e w1 ⟨rfl, hb1⟩
  have hz_hb1 := hb1.size; (try simp at hz_hb1)
  have HB1 := Lib.hid hb1; clear hb1
  go_wp2_with fail
  go_ret2
  have hb1 := HB1.out
  exact ⟨rfl, by (repeat' (first | (with_reducible assumption) | (with_reducible exact Below.refl _ _) | (with_reducible refine below_drewN ?_ _) | (with_reducible refine Below.drew ?_) | (with_reducible refine Below.alloc ?_ ?_ _) | (with_reducible refine Below.setCell ?_ ?_ _) | (with_reducible refine Below.trans ?_ (Below.mono (by assumption) ?_)) | (with_reducible exact Nat.le_refl _) | (with_reducible assumption) | omega | (simp; omega) | (simp; done)))⟩

end Go.Proofs.Ytpjlolnnbbgikaa
