/- The walk of the law of products. -/
import Derived.Test.YtpjlolnnbbgikaaKE
import Derived.Test.YtpjlolnnbbgikaaKF
import Derived.Test.YtpjlolnnbbgikaaKC
namespace Go.Proofs.Ytpjlolnnbbgikaa
open Go.RowKit

set_option maxHeartbeats 1000000 in
/-- impl.TimesOf. -/
theorem impl_TimesOf_yes (q a b : Int) (w : World) (ha : inE q a = true) (hb : inE q b = true) :
    Calls Try.prog 15 #[.int .i64 q, .int .i64 a, .int .i64 b] w fun e w' => e = .returned (.tuple #[.int .i64 (mulF q a b), .bool true]) ∧ Below w.heap.size w w' := by
  have hf := mulF_bd q a b (inE_yes ha).1 (inE_yes ha).2.1 (inE_yes ha).2.2 (inE_yes hb).2.1 (inE_yes hb).2.2
  have HC := Lib.hid (fun w => timesE q a b w (inE_yes ha).1 (inE_yes ha).2.1 (inE_yes ha).2.2 (inE_yes hb).2.1 (inE_yes hb).2.2)
  have HN := Lib.hid (fun w => numberE q (mulF q a b) w (inE_yes ha).1 hf.1 hf.2)
  have HP := Lib.hid (fun w => pairOf_yes q a b w ha hb)
  clear hf ha hb
  go_enter Try.func15, Try.ntmps15
  go_wp2_with fail
  refine (HP.out _).mono ?_
  rintro e w1 ⟨rfl, hb1⟩
  have hz_hb1 := hb1.size; (try simp at hz_hb1)
  have HB1 := Lib.hid hb1; clear hb1
  go_wp2_with fail
  refine (HC.out _).mono ?_
  rintro e w2 ⟨rfl, hb2⟩
  have hz_hb2 := hb2.size; (try simp at hz_hb2)
  have HB2 := Lib.hid hb2; clear hb2
  go_wp2_with fail
  refine (HN.out _).mono ?_
  rintro e w3 ⟨rfl, hb3⟩
  have hz_hb3 := hb3.size; (try simp at hz_hb3)
  have HB3 := Lib.hid hb3; clear hb3
  go_wp2
  go_ret2
  have hb1 := HB1.out
  have hb2 := HB2.out
  have hb3 := HB3.out
  exact ⟨rfl, by (repeat' (first | (with_reducible assumption) | (with_reducible exact Below.refl _ _) | (with_reducible refine below_drewN ?_ _) | (with_reducible refine Below.drew ?_) | (with_reducible refine Below.alloc ?_ ?_ _) | (with_reducible refine Below.setCell ?_ ?_ _) | (with_reducible refine Below.trans ?_ (Below.mono (by assumption) ?_)) | (with_reducible exact Nat.le_refl _) | (with_reducible assumption) | omega | (simp; omega) | (simp; done)))⟩
theorem impl_TimesOf_no1 (q a b : Int) (w : World) (ha : inE q a = false) (hb : inE q b = false) :
    Calls Try.prog 15 #[.int .i64 q, .int .i64 a, .int .i64 b] w fun e w' => e = .returned (.tuple #[.int .i64 0, .bool false]) ∧ Below w.heap.size w w' := by
  have HP := Lib.hid (fun w => pairOf_no1 q a b w ha hb)
  clear ha hb
  go_enter Try.func15, Try.ntmps15
  go_wp2_with fail
  refine (HP.out _).mono ?_
  rintro e w1 ⟨rfl, hb1⟩
  have hz_hb1 := hb1.size; (try simp at hz_hb1)
  have HB1 := Lib.hid hb1; clear hb1
  go_wp2_with fail
  go_ret2
  have hb1 := HB1.out
  exact ⟨rfl, by (repeat' (first | (with_reducible assumption) | (with_reducible exact Below.refl _ _) | (with_reducible refine below_drewN ?_ _) | (with_reducible refine Below.drew ?_) | (with_reducible refine Below.alloc ?_ ?_ _) | (with_reducible refine Below.setCell ?_ ?_ _) | (with_reducible refine Below.trans ?_ (Below.mono (by assumption) ?_)) | (with_reducible exact Nat.le_refl _) | (with_reducible assumption) | omega | (simp; omega) | (simp; done)))⟩
theorem impl_TimesOf_no2 (q a b : Int) (w : World) (ha : inE q a = false) (hb : inE q b = true) :
    Calls Try.prog 15 #[.int .i64 q, .int .i64 a, .int .i64 b] w fun e w' => e = .returned (.tuple #[.int .i64 0, .bool false]) ∧ Below w.heap.size w w' := by
  have HP := Lib.hid (fun w => pairOf_no2 q a b w ha hb)
  clear ha hb
  go_enter Try.func15, Try.ntmps15
  go_wp2_with fail
  refine (HP.out _).mono ?_
  rintro e w1 ⟨rfl, hb1⟩
  have hz_hb1 := hb1.size; (try simp at hz_hb1)
  have HB1 := Lib.hid hb1; clear hb1
  go_wp2_with fail
  go_ret2
  have hb1 := HB1.out
  exact ⟨rfl, by (repeat' (first | (with_reducible assumption) | (with_reducible exact Below.refl _ _) | (with_reducible refine below_drewN ?_ _) | (with_reducible refine Below.drew ?_) | (with_reducible refine Below.alloc ?_ ?_ _) | (with_reducible refine Below.setCell ?_ ?_ _) | (with_reducible refine Below.trans ?_ (Below.mono (by assumption) ?_)) | (with_reducible exact Nat.le_refl _) | (with_reducible assumption) | omega | (simp; omega) | (simp; done)))⟩
theorem impl_TimesOf_no3 (q a b : Int) (w : World) (ha : inE q a = true) (hb : inE q b = false) :
    Calls Try.prog 15 #[.int .i64 q, .int .i64 a, .int .i64 b] w fun e w' => e = .returned (.tuple #[.int .i64 0, .bool false]) ∧ Below w.heap.size w w' := by
  have HP := Lib.hid (fun w => pairOf_no3 q a b w ha hb)
  clear ha hb
  go_enter Try.func15, Try.ntmps15
  go_wp2_with fail
  refine (HP.out _).mono ?_
  rintro e w1 ⟨rfl, hb1⟩
  have hz_hb1 := hb1.size; (try simp at hz_hb1)
  have HB1 := Lib.hid hb1; clear hb1
  go_wp2_with fail
  go_ret2
  have hb1 := HB1.out
  exact ⟨rfl, by (repeat' (first | (with_reducible assumption) | (with_reducible exact Below.refl _ _) | (with_reducible refine below_drewN ?_ _) | (with_reducible refine Below.drew ?_) | (with_reducible refine Below.alloc ?_ ?_ _) | (with_reducible refine Below.setCell ?_ ?_ _) | (with_reducible refine Below.trans ?_ (Below.mono (by assumption) ?_)) | (with_reducible exact Nat.le_refl _) | (with_reducible assumption) | omega | (simp; omega) | (simp; done)))⟩

end Go.Proofs.Ytpjlolnnbbgikaa
