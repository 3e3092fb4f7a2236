/- The walks of the laws FnExactPrimeOf and FnExactIsSize. -/
import Derived.Test.YtaldlkokbpidiaaKB
import Derived.WalkSmall
import Derived.Deep.QuietTactic
import Derived.BigQuiet
namespace Go.Proofs.Ytaldlkokbpidiaa
open Go.RowKit

/-- spec.PrimeOf. -/
theorem spec_PrimeOf_yes (q : Int) (w : World) (h : isSz q = true) :
    Calls Try.prog 22 #[.int .i64 q] w fun e w' => e = .returned (.tuple #[.int .i64 (pr q), .int .i64 (pl q), .bool true]) ∧ Below w.heap.size w w' := by
  go_enter Try.func22, Try.ntmps22
  go_wp2_with (first | (go_at_call 46; refine (fdSize_any _ _).mono ?_; rintro e w1 ⟨rfl, hb⟩; have hz_hb := hb.size; (try simp at hz_hb)) | (go_at_call 47; refine (fdPrime_any _ _ h).mono ?_; rintro e w2 ⟨rfl, rfl⟩))
  go_ret3
  exact ⟨rfl, by (repeat' (first | (with_reducible assumption) | (with_reducible exact Below.refl _ _) | (with_reducible refine below_drewN ?_ _) | (with_reducible refine Below.drew ?_) | (with_reducible refine Below.alloc ?_ ?_ _) | (with_reducible refine Below.setCell ?_ ?_ _) | (with_reducible refine Below.trans ?_ (Below.mono (by assumption) ?_)) | (with_reducible exact Nat.le_refl _) | (with_reducible assumption) | omega | (simp; omega) | (simp; done)))⟩
theorem spec_PrimeOf_no (q : Int) (w : World) (h : isSz q = false) :
    Calls Try.prog 22 #[.int .i64 q] w fun e w' => e = .returned (.tuple #[.int .i64 0, .int .i64 0, .bool false]) ∧ Below w.heap.size w w' := by
  go_enter Try.func22, Try.ntmps22
  go_wp2_with (first | (go_at_call 46; refine (fdSize_any _ _).mono ?_; rintro e w1 ⟨rfl, hb⟩; have hz_hb := hb.size; (try simp at hz_hb)))
  go_ret3
  exact ⟨rfl, by (repeat' (first | (with_reducible assumption) | (with_reducible exact Below.refl _ _) | (with_reducible refine below_drewN ?_ _) | (with_reducible refine Below.drew ?_) | (with_reducible refine Below.alloc ?_ ?_ _) | (with_reducible refine Below.setCell ?_ ?_ _) | (with_reducible refine Below.trans ?_ (Below.mono (by assumption) ?_)) | (with_reducible exact Nat.le_refl _) | (with_reducible assumption) | omega | (simp; omega) | (simp; done)))⟩
/-- impl.PrimeOf. -/
theorem impl_PrimeOf_yes (q : Int) (w : World) (h : isSz q = true) :
    Calls Try.prog 14 #[.int .i64 q] w fun e w' => e = .returned (.tuple #[.int .i64 (pr q), .int .i64 (pl q), .bool true]) ∧ Below w.heap.size w w' := by
  go_enter Try.func14, Try.ntmps14
  go_wp2_with (first | (go_at_call 38; refine (fieldOf_yes _ _ h).mono ?_; rintro e w1 ⟨rfl, hb⟩; have hz_hb := hb.size; (try simp at hz_hb)))
  go_quiet (fail)
  go_wp2
  go_ret3
  exact ⟨rfl, by (repeat' (first | (with_reducible assumption) | (with_reducible exact Below.refl _ _) | (with_reducible refine below_drewN ?_ _) | (with_reducible refine Below.drew ?_) | (with_reducible refine Below.alloc ?_ ?_ _) | (with_reducible refine Below.setCell ?_ ?_ _) | (with_reducible refine Below.trans ?_ (Below.mono (by assumption) ?_)) | (with_reducible exact Nat.le_refl _) | (with_reducible assumption) | omega | (simp; omega) | (simp; done)))⟩
theorem impl_PrimeOf_no (q : Int) (w : World) (h : isSz q = false) :
    Calls Try.prog 14 #[.int .i64 q] w fun e w' => e = .returned (.tuple #[.int .i64 0, .int .i64 0, .bool false]) ∧ Below w.heap.size w w' := by
  go_enter Try.func14, Try.ntmps14
  go_wp2_with (first | (go_at_call 38; refine (fieldOf_no _ _ h).mono ?_; rintro e w1 ⟨rfl, hb⟩; have hz_hb := hb.size; (try simp at hz_hb)))
  go_quiet (fail)
  go_wp2
  go_ret3
  exact ⟨rfl, by (repeat' (first | (with_reducible assumption) | (with_reducible exact Below.refl _ _) | (with_reducible refine below_drewN ?_ _) | (with_reducible refine Below.drew ?_) | (with_reducible refine Below.alloc ?_ ?_ _) | (with_reducible refine Below.setCell ?_ ?_ _) | (with_reducible refine Below.trans ?_ (Below.mono (by assumption) ?_)) | (with_reducible exact Nat.le_refl _) | (with_reducible assumption) | omega | (simp; omega) | (simp; done)))⟩
/-- impl.IsSize. -/
theorem impl_IsSize (q : Int) (w : World) :
    Calls Try.prog 25 #[.int .i64 q] w fun e w' => e = .returned (.bool (isSz q)) ∧ Below w.heap.size w w' := by
  cases h : isSz q with
  | true =>
    go_enter Try.func25, Try.ntmps25
    go_wp2_with (first | (go_at_call 38; refine (fieldOf_yes _ _ h).mono ?_; rintro e w1 ⟨rfl, hb⟩; have hz_hb := hb.size; (try simp at hz_hb)))
    go_ret
    exact ⟨rfl, by (repeat' (first | (with_reducible assumption) | (with_reducible exact Below.refl _ _) | (with_reducible refine below_drewN ?_ _) | (with_reducible refine Below.drew ?_) | (with_reducible refine Below.alloc ?_ ?_ _) | (with_reducible refine Below.setCell ?_ ?_ _) | (with_reducible refine Below.trans ?_ (Below.mono (by assumption) ?_)) | (with_reducible exact Nat.le_refl _) | (with_reducible assumption) | omega | (simp; omega) | (simp; done)))⟩
  | false =>
    go_enter Try.func25, Try.ntmps25
    go_wp2_with (first | (go_at_call 38; refine (fieldOf_no _ _ h).mono ?_; rintro e w1 ⟨rfl, hb⟩; have hz_hb := hb.size; (try simp at hz_hb)))
    go_ret
    exact ⟨rfl, by (repeat' (first | (with_reducible assumption) | (with_reducible exact Below.refl _ _) | (with_reducible refine below_drewN ?_ _) | (with_reducible refine Below.drew ?_) | (with_reducible refine Below.alloc ?_ ?_ _) | (with_reducible refine Below.setCell ?_ ?_ _) | (with_reducible refine Below.trans ?_ (Below.mono (by assumption) ?_)) | (with_reducible exact Nat.le_refl _) | (with_reducible assumption) | omega | (simp; omega) | (simp; done)))⟩
/-- spec.IsSize. -/
theorem spec_IsSize (q : Int) (w : World) :
    Calls Try.prog 26 #[.int .i64 q] w fun e w' => e = .returned (.bool (isSz q)) ∧ Below w.heap.size w w' := by
  go_enter Try.func26, Try.ntmps26
  go_wp2_with (first | (go_at_call 46; refine (fdSize_any _ _).mono ?_; rintro e w1 ⟨rfl, hb⟩; have hz_hb := hb.size; (try simp at hz_hb)))
  go_ret
  exact ⟨rfl, by (repeat' (first | (with_reducible assumption) | (with_reducible exact Below.refl _ _) | (with_reducible refine below_drewN ?_ _) | (with_reducible refine Below.drew ?_) | (with_reducible refine Below.alloc ?_ ?_ _) | (with_reducible refine Below.setCell ?_ ?_ _) | (with_reducible refine Below.trans ?_ (Below.mono (by assumption) ?_)) | (with_reducible exact Nat.le_refl _) | (with_reducible assumption) | omega | (simp; omega) | (simp; done)))⟩
end Go.Proofs.Ytaldlkokbpidiaa
