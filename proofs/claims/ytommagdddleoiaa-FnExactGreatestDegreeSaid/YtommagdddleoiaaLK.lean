/- GreatestDegree, of both, by contracts; the walk of its law. -/
import Derived.Test.YtommagdddleoiaaKI
namespace Go.Proofs.Ytommagdddleoiaa
open Go.RowKit
theorem most_int (a b : Int) (w : World) : Calls Try.prog 64 #[.int .i64 a, .int .i64 b] w fun e w' => e = .returned (.int .i64 (max a b)) ∧ w' = w := by
  by_cases h : b < a
  · rw [Int.max_eq_left (by omega)]
    go_enter Try.func64, Try.ntmps64
    go_wp2
    go_ret
    exact ⟨rfl, rfl⟩
  · rw [Int.max_eq_right (by omega)]
    go_enter Try.func64, Try.ntmps64
    go_wp2
    go_ret
    exact ⟨rfl, rfl⟩
/-- impl.IsSize. -/
theorem isSizeE (q : Int) (w : World) :
    Calls Try.prog 65 #[.int .i64 q] w fun e w' => e = .returned (.bool (isSz q)) ∧ Below w.heap.size w w' := by
  cases h : isSz q with
  | true =>
    go_enter Try.func65, Try.ntmps65
    go_wp2_with (first | (go_at_call 72; refine (fieldOf_yes _ _ h).mono ?_; rintro e w1 ⟨rfl, hb⟩; have hz_hb := hb.size; (try simp at hz_hb)))
    go_ret
    exact ⟨rfl, by (repeat' (first | (with_reducible assumption) | (with_reducible exact Below.refl _ _) | (with_reducible refine below_drewN ?_ _) | (with_reducible refine Below.drew ?_) | (with_reducible refine Below.alloc ?_ ?_ _) | (with_reducible refine Below.setCell ?_ ?_ _) | (with_reducible refine Below.trans ?_ (Below.mono (by assumption) ?_)) | (with_reducible exact Nat.le_refl _) | (with_reducible assumption) | omega | (simp; omega) | (simp; done)))⟩
  | false =>
    go_enter Try.func65, Try.ntmps65
    go_wp2_with (first | (go_at_call 72; refine (fieldOf_no _ _ h).mono ?_; rintro e w1 ⟨rfl, hb⟩; have hz_hb := hb.size; (try simp at hz_hb)))
    go_ret
    exact ⟨rfl, by (repeat' (first | (with_reducible assumption) | (with_reducible exact Below.refl _ _) | (with_reducible refine below_drewN ?_ _) | (with_reducible refine Below.drew ?_) | (with_reducible refine Below.alloc ?_ ?_ _) | (with_reducible refine Below.setCell ?_ ?_ _) | (with_reducible refine Below.trans ?_ (Below.mono (by assumption) ?_)) | (with_reducible exact Nat.le_refl _) | (with_reducible assumption) | omega | (simp; omega) | (simp; done)))⟩
theorem spec_GreatestDegree_no (q : Int) (w : World) (h : isSz q = false) :
    Calls Try.prog 31 #[.int .i64 q] w fun e w' => e = .returned (.tuple #[.int .i64 0, .bool false]) ∧ Below w.heap.size w w' := by
  go_enter Try.func31, Try.ntmps31
  go_wp2_with fail
  refine (fdSize_any _ _).mono ?_
  rintro e w1 ⟨rfl, hb1⟩
  rw [h]
  go_wp2
  go_ret2
  exact ⟨rfl, hb1⟩
theorem impl_GreatestDegree_no (q : Int) (w : World) (h : isSz q = false) :
    Calls Try.prog 32 #[.int .i64 q] w fun e w' => e = .returned (.tuple #[.int .i64 0, .bool false]) ∧ Below w.heap.size w w' := by
  go_enter Try.func32, Try.ntmps32
  go_wp2_with fail
  refine (isSizeE _ _).mono ?_
  rintro e w1 ⟨rfl, hb1⟩
  rw [h]
  go_wp2
  go_ret2
  exact ⟨rfl, hb1⟩
theorem spec_GreatestDegree_yes (q : Int) (w : World) (h : isSz q = true) :
    Calls Try.prog 31 #[.int .i64 q] w fun e w' => e = .returned (.tuple #[.int .i64 (max 1 (q - 2)), .bool true]) ∧ Below w.heap.size w w' := by
  have hq := isSz_le q h
  go_enter Try.func31, Try.ntmps31
  go_wp2_with fail
  refine (fdSize_any _ _).mono ?_
  rintro e w1 ⟨rfl, hb1⟩
  rw [h]
  go_wp2_with fail
  refine (most_int _ _ _).mono ?_
  rintro e w2 ⟨rfl, rfl⟩
  go_wp2
  go_ret2
  exact ⟨rfl, hb1⟩
theorem impl_GreatestDegree_yes (q : Int) (w : World) (h : isSz q = true) :
    Calls Try.prog 32 #[.int .i64 q] w fun e w' => e = .returned (.tuple #[.int .i64 (max 1 (q - 2)), .bool true]) ∧ Below w.heap.size w w' := by
  have hq := isSz_le q h
  have HS := Lib.hid (fun w => isSizeE q w)
  rw [h] at HS
  clear h
  by_cases hm : 1 < q - 2
  · rw [Int.max_eq_right (by omega)]
    go_enter Try.func32, Try.ntmps32
    go_wp2_with fail
    refine (HS.out _).mono ?_
    rintro e w1 ⟨rfl, hb1⟩
    go_wp2
    go_ret2
    exact ⟨rfl, hb1⟩
  · rw [Int.max_eq_left (by omega)]
    go_enter Try.func32, Try.ntmps32
    go_wp2_with fail
    refine (HS.out _).mono ?_
    rintro e w1 ⟨rfl, hb1⟩
    go_wp2
    all_goals
      go_ret2
      first
      | exact ⟨rfl, hb1⟩
      | (have e : q - 2 = 1 := by omega
         simp only [e]
         exact ⟨rfl, hb1⟩)
/-- laws.FnExactGreatestDegree. -/
theorem walk_FnExactGreatestDegree (q : Int) (_h : (Lit.int .i64 q).wf = true) (w : World) :
    Calls Try.prog 10 #[.int .i64 q] w fun e w' => e = .returned (.bool true) ∧ Below w.heap.size w w' := by
  cases h : isSz q with
  | true =>
    generalize hr : max 1 (q - 2) = r
    have K1 : ∀ w, Calls Try.prog 31 #[.int .i64 q] w fun e w' => e = .returned (.tuple #[.int .i64 r, .bool true]) ∧ Below w.heap.size w w' := fun w => by rw [← hr]; exact spec_GreatestDegree_yes q w h
    have K2 : ∀ w, Calls Try.prog 32 #[.int .i64 q] w fun e w' => e = .returned (.tuple #[.int .i64 r, .bool true]) ∧ Below w.heap.size w w' := fun w => by rw [← hr]; exact impl_GreatestDegree_yes q w h
    clear hr h
    go_enter Try.func10, Try.ntmps10
    go_wp2_with (first | (go_at_call 31; refine (K1 _).mono ?_; rintro e w1 ⟨rfl, hb1⟩; have hz_hb1 := hb1.size; (try simp at hz_hb1)) | (go_at_call 32; refine (K2 _).mono ?_; rintro e w2 ⟨rfl, hb2⟩; have hz_hb2 := hb2.size; (try simp at hz_hb2)))
    go_ret
    exact ⟨rfl, by (repeat' (first | (with_reducible assumption) | (with_reducible exact Below.refl _ _) | (with_reducible refine below_drewN ?_ _) | (with_reducible refine Below.drew ?_) | (with_reducible refine Below.alloc ?_ ?_ _) | (with_reducible refine Below.setCell ?_ ?_ _) | (with_reducible refine Below.trans ?_ (Below.mono (by assumption) ?_)) | (with_reducible exact Nat.le_refl _) | (with_reducible assumption) | omega | (simp; omega) | (simp; done)))⟩
  | false =>
    go_enter Try.func10, Try.ntmps10
    go_wp2_with (first | (go_at_call 31; refine (spec_GreatestDegree_no _ _ h).mono ?_; rintro e w1 ⟨rfl, hb1⟩; have hz_hb1 := hb1.size; (try simp at hz_hb1)) | (go_at_call 32; refine (impl_GreatestDegree_no _ _ h).mono ?_; rintro e w2 ⟨rfl, hb2⟩; have hz_hb2 := hb2.size; (try simp at hz_hb2)))
    go_ret
    exact ⟨rfl, by (repeat' (first | (with_reducible assumption) | (with_reducible exact Below.refl _ _) | (with_reducible refine below_drewN ?_ _) | (with_reducible refine Below.drew ?_) | (with_reducible refine Below.alloc ?_ ?_ _) | (with_reducible refine Below.setCell ?_ ?_ _) | (with_reducible refine Below.trans ?_ (Below.mono (by assumption) ?_)) | (with_reducible exact Nat.le_refl _) | (with_reducible assumption) | omega | (simp; omega) | (simp; done)))⟩
end Go.Proofs.Ytommagdddleoiaa
