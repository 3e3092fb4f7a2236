/- The walks of the laws FnExactPrimeOf and FnExactIsSize. -/
import Derived.Test.YtjlkodkmipmjiaaB
import Derived.WalkSmall
import Derived.Deep.QuietTactic
import Derived.BigQuiet
namespace Go.Proofs.Ytjlkodkmipmjiaa
open Go.RowKit

/-- spec.PrimeOf. -/
theorem spec_PrimeOf_yes (q : Int) (w : World) (h : isSz q = true) :
    Calls Try.prog 15 #[.int .i64 q] w fun e w' => e = .returned (.tuple #[.int .i64 (pr q), .int .i64 (pl q), .bool true]) ∧ Below w.heap.size w w' := by
  go_enter Try.func15, Try.ntmps15
  go_wp2_with (first | (go_at_call 36; refine (fdSize_any _ _).mono ?_; rintro e w1 ⟨rfl, hb⟩; have hz_hb := hb.size; (try simp at hz_hb)) | (go_at_call 38; refine (fdPrime_any _ _ h).mono ?_; rintro e w2 ⟨rfl, rfl⟩))
  go_ret3
  exact ⟨rfl, by (repeat' (first | (with_reducible assumption) | (with_reducible exact Below.refl _ _) | (with_reducible refine below_drewN ?_ _) | (with_reducible refine Below.drew ?_) | (with_reducible refine Below.alloc ?_ ?_ _) | (with_reducible refine Below.setCell ?_ ?_ _) | (with_reducible refine Below.trans ?_ (Below.mono (by assumption) ?_)) | (with_reducible exact Nat.le_refl _) | (with_reducible assumption) | omega | (simp; omega) | (simp; done)))⟩
theorem spec_PrimeOf_no (q : Int) (w : World) (h : isSz q = false) :
    Calls Try.prog 15 #[.int .i64 q] w fun e w' => e = .returned (.tuple #[.int .i64 0, .int .i64 0, .bool false]) ∧ Below w.heap.size w w' := by
  go_enter Try.func15, Try.ntmps15
  go_wp2_with (first | (go_at_call 36; refine (fdSize_any _ _).mono ?_; rintro e w1 ⟨rfl, hb⟩; have hz_hb := hb.size; (try simp at hz_hb)))
  go_ret3
  exact ⟨rfl, by (repeat' (first | (with_reducible assumption) | (with_reducible exact Below.refl _ _) | (with_reducible refine below_drewN ?_ _) | (with_reducible refine Below.drew ?_) | (with_reducible refine Below.alloc ?_ ?_ _) | (with_reducible refine Below.setCell ?_ ?_ _) | (with_reducible refine Below.trans ?_ (Below.mono (by assumption) ?_)) | (with_reducible exact Nat.le_refl _) | (with_reducible assumption) | omega | (simp; omega) | (simp; done)))⟩
/-- impl.PrimeOf. -/
theorem impl_PrimeOf_yes (q : Int) (w : World) (h : isSz q = true) :
    Calls Try.prog 16 #[.int .i64 q] w fun e w' => e = .returned (.tuple #[.int .i64 (pr q), .int .i64 (pl q), .bool true]) ∧ Below w.heap.size w w' := by
  go_enter Try.func16, Try.ntmps16
  go_wp2_with (first | (go_at_call 37; refine (fieldOf_yes _ _ h).mono ?_; rintro e w1 ⟨rfl, hb⟩; have hz_hb := hb.size; (try simp at hz_hb)))
  go_quiet (fail)
  go_wp2
  go_ret3
  exact ⟨rfl, by (repeat' (first | (with_reducible assumption) | (with_reducible exact Below.refl _ _) | (with_reducible refine below_drewN ?_ _) | (with_reducible refine Below.drew ?_) | (with_reducible refine Below.alloc ?_ ?_ _) | (with_reducible refine Below.setCell ?_ ?_ _) | (with_reducible refine Below.trans ?_ (Below.mono (by assumption) ?_)) | (with_reducible exact Nat.le_refl _) | (with_reducible assumption) | omega | (simp; omega) | (simp; done)))⟩
theorem impl_PrimeOf_no (q : Int) (w : World) (h : isSz q = false) :
    Calls Try.prog 16 #[.int .i64 q] w fun e w' => e = .returned (.tuple #[.int .i64 0, .int .i64 0, .bool false]) ∧ Below w.heap.size w w' := by
  go_enter Try.func16, Try.ntmps16
  go_wp2_with (first | (go_at_call 37; refine (fieldOf_no _ _ h).mono ?_; rintro e w1 ⟨rfl, hb⟩; have hz_hb := hb.size; (try simp at hz_hb)))
  go_quiet (fail)
  go_wp2
  go_ret3
  exact ⟨rfl, by (repeat' (first | (with_reducible assumption) | (with_reducible exact Below.refl _ _) | (with_reducible refine below_drewN ?_ _) | (with_reducible refine Below.drew ?_) | (with_reducible refine Below.alloc ?_ ?_ _) | (with_reducible refine Below.setCell ?_ ?_ _) | (with_reducible refine Below.trans ?_ (Below.mono (by assumption) ?_)) | (with_reducible exact Nat.le_refl _) | (with_reducible assumption) | omega | (simp; omega) | (simp; done)))⟩
/-- laws.FnExactPrimeOf. -/
theorem walk_FnExactPrimeOf (q : Int) (_h : (Lit.int .i64 q).wf = true) (w : World) :
    Calls Try.prog 4 #[.int .i64 q] w fun e w' => e = .returned (.bool true) ∧ Below w.heap.size w w' := by
  cases h : isSz q with
  | true =>
    go_enter Try.func4, Try.ntmps4
    go_wp2_with (first | (go_at_call 15; refine (spec_PrimeOf_yes _ _ h).mono ?_; rintro e w1 ⟨rfl, hb1⟩; have hz_hb1 := hb1.size; (try simp at hz_hb1)) | (go_at_call 16; refine (impl_PrimeOf_yes _ _ h).mono ?_; rintro e w2 ⟨rfl, hb2⟩; have hz_hb2 := hb2.size; (try simp at hz_hb2)))
    go_ret
    exact ⟨rfl, by (repeat' (first | (with_reducible assumption) | (with_reducible exact Below.refl _ _) | (with_reducible refine below_drewN ?_ _) | (with_reducible refine Below.drew ?_) | (with_reducible refine Below.alloc ?_ ?_ _) | (with_reducible refine Below.setCell ?_ ?_ _) | (with_reducible refine Below.trans ?_ (Below.mono (by assumption) ?_)) | (with_reducible exact Nat.le_refl _) | (with_reducible assumption) | omega | (simp; omega) | (simp; done)))⟩
  | false =>
    go_enter Try.func4, Try.ntmps4
    go_wp2_with (first | (go_at_call 15; refine (spec_PrimeOf_no _ _ h).mono ?_; rintro e w1 ⟨rfl, hb1⟩; have hz_hb1 := hb1.size; (try simp at hz_hb1)) | (go_at_call 16; refine (impl_PrimeOf_no _ _ h).mono ?_; rintro e w2 ⟨rfl, hb2⟩; have hz_hb2 := hb2.size; (try simp at hz_hb2)))
    go_ret
    exact ⟨rfl, by (repeat' (first | (with_reducible assumption) | (with_reducible exact Below.refl _ _) | (with_reducible refine below_drewN ?_ _) | (with_reducible refine Below.drew ?_) | (with_reducible refine Below.alloc ?_ ?_ _) | (with_reducible refine Below.setCell ?_ ?_ _) | (with_reducible refine Below.trans ?_ (Below.mono (by assumption) ?_)) | (with_reducible exact Nat.le_refl _) | (with_reducible assumption) | omega | (simp; omega) | (simp; done)))⟩
/-- impl.IsSize. -/
theorem impl_IsSize (q : Int) (w : World) :
    Calls Try.prog 14 #[.int .i64 q] w fun e w' => e = .returned (.bool (isSz q)) ∧ Below w.heap.size w w' := by
  cases h : isSz q with
  | true =>
    go_enter Try.func14, Try.ntmps14
    go_wp2_with (first | (go_at_call 37; refine (fieldOf_yes _ _ h).mono ?_; rintro e w1 ⟨rfl, hb⟩; have hz_hb := hb.size; (try simp at hz_hb)))
    go_ret
    exact ⟨rfl, by (repeat' (first | (with_reducible assumption) | (with_reducible exact Below.refl _ _) | (with_reducible refine below_drewN ?_ _) | (with_reducible refine Below.drew ?_) | (with_reducible refine Below.alloc ?_ ?_ _) | (with_reducible refine Below.setCell ?_ ?_ _) | (with_reducible refine Below.trans ?_ (Below.mono (by assumption) ?_)) | (with_reducible exact Nat.le_refl _) | (with_reducible assumption) | omega | (simp; omega) | (simp; done)))⟩
  | false =>
    go_enter Try.func14, Try.ntmps14
    go_wp2_with (first | (go_at_call 37; refine (fieldOf_no _ _ h).mono ?_; rintro e w1 ⟨rfl, hb⟩; have hz_hb := hb.size; (try simp at hz_hb)))
    go_ret
    exact ⟨rfl, by (repeat' (first | (with_reducible assumption) | (with_reducible exact Below.refl _ _) | (with_reducible refine below_drewN ?_ _) | (with_reducible refine Below.drew ?_) | (with_reducible refine Below.alloc ?_ ?_ _) | (with_reducible refine Below.setCell ?_ ?_ _) | (with_reducible refine Below.trans ?_ (Below.mono (by assumption) ?_)) | (with_reducible exact Nat.le_refl _) | (with_reducible assumption) | omega | (simp; omega) | (simp; done)))⟩
/-- spec.IsSize. -/
theorem spec_IsSize (q : Int) (w : World) :
    Calls Try.prog 13 #[.int .i64 q] w fun e w' => e = .returned (.bool (isSz q)) ∧ Below w.heap.size w w' := by
  go_enter Try.func13, Try.ntmps13
  go_wp2_with (first | (go_at_call 36; refine (fdSize_any _ _).mono ?_; rintro e w1 ⟨rfl, hb⟩; have hz_hb := hb.size; (try simp at hz_hb)))
  go_ret
  exact ⟨rfl, by (repeat' (first | (with_reducible assumption) | (with_reducible exact Below.refl _ _) | (with_reducible refine below_drewN ?_ _) | (with_reducible refine Below.drew ?_) | (with_reducible refine Below.alloc ?_ ?_ _) | (with_reducible refine Below.setCell ?_ ?_ _) | (with_reducible refine Below.trans ?_ (Below.mono (by assumption) ?_)) | (with_reducible exact Nat.le_refl _) | (with_reducible assumption) | omega | (simp; omega) | (simp; done)))⟩
/-- laws.FnExactIsSize. -/
theorem walk_FnExactIsSize (q : Int) (_h : (Lit.int .i64 q).wf = true) (w : World) :
    Calls Try.prog 3 #[.int .i64 q] w fun e w' => e = .returned (.bool true) ∧ Below w.heap.size w w' := by
  go_enter Try.func3, Try.ntmps3
  go_wp2_with (first | (go_at_call 13; refine (spec_IsSize _ _).mono ?_; rintro e w1 ⟨rfl, hb1⟩; have hz_hb1 := hb1.size; (try simp at hz_hb1)) | (go_at_call 14; refine (impl_IsSize _ _).mono ?_; rintro e w2 ⟨rfl, hb2⟩; have hz_hb2 := hb2.size; (try simp at hz_hb2)))
  go_ret
  exact ⟨rfl, by (repeat' (first | (with_reducible assumption) | (with_reducible exact Below.refl _ _) | (with_reducible refine below_drewN ?_ _) | (with_reducible refine Below.drew ?_) | (with_reducible refine Below.alloc ?_ ?_ _) | (with_reducible refine Below.setCell ?_ ?_ _) | (with_reducible refine Below.trans ?_ (Below.mono (by assumption) ?_)) | (with_reducible exact Nat.le_refl _) | (with_reducible assumption) | omega | (simp; omega) | (simp; done)))⟩
end Go.Proofs.Ytjlkodkmipmjiaa
