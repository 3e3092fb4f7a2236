/- Valid elements; spec.fdIn, impl.elementOf, impl.pairOf by contracts. -/
import Derived.Test.YthklnfanbegecacJ
import Derived.Test.YthklnfanbegecacE
namespace Go.Proofs.Ythklnfanbegecac
open Go.RowKit
/-- q is a size and a an element of its field. -/
def inE (q a : Int) : Bool := isSz q && (decide (0 ≤ a) && decide (a < q))
theorem inE_yes {q a : Int} (h : inE q a = true) : isSz q = true ∧ 0 ≤ a ∧ a < q := by
  simpa [inE] using h
theorem inE_no {q a : Int} (h : inE q a = false) : isSz q = false ∨ isSz q = true ∧ a < 0 ∨ isSz q = true ∧ 0 ≤ a ∧ q ≤ a := by
  cases hs : isSz q with
  | false => exact .inl rfl
  | true =>
    simp [inE, hs] at h
    by_cases h0 : a < 0
    · exact .inr (.inl ⟨rfl, h0⟩)
    · exact .inr (.inr ⟨rfl, by omega, h (by omega)⟩)

/-- spec.l1In. -/
theorem l1In_any (n lo hi : Int) (w : World) :
    Calls Try.prog 24 #[.int .i64 n, .int .i64 lo, .int .i64 hi] w fun e w' => e = .returned (.bool (decide (lo ≤ n) && decide (n ≤ hi))) ∧ w = w' := by
  by_cases h1 : lo ≤ n
  · go_enter Try.func24, Try.ntmps24
    go_wp2
    all_goals
      go_ret
      exact ⟨ret_bool (by simp [h1]), rfl⟩
  · go_enter Try.func24, Try.ntmps24
    go_wp2
    all_goals
      go_ret
      exact ⟨ret_bool (by simp; try omega), rfl⟩
/-- spec.fdIn. -/
theorem fdIn_any (q a : Int) (w : World) :
    Calls Try.prog 21 #[.int .i64 q, .int .i64 a] w fun e w' => e = .returned (.bool (inE q a)) ∧ Below w.heap.size w w' := by
  cases h : isSz q with
  | true =>
    have hq := isSz_le q h
    have e : inE q a = (decide (0 ≤ a) && decide (a ≤ q - 1)) := by
      simp only [inE, h, Bool.true_and]
      congr 1
      exact decide_eq_decide.2 (by omega)
    have HE := Lib.hid e; clear e
    go_enter Try.func21, Try.ntmps21
    go_wp2_with (first | (go_at_call 28; refine (fdSize_any _ _).mono ?_; rintro e w1 ⟨rfl, hb⟩; have hz_hb := hb.size; (try simp at hz_hb)) | (go_at_call 24; refine (l1In_any _ _ _ _).mono ?_; rintro e w2 ⟨rfl, rfl⟩))
    all_goals
      go_ret
      exact ⟨ret_bool (by rw [HE.out] <;> simp), by (repeat' (first | (with_reducible assumption) | (with_reducible exact Below.refl _ _) | (with_reducible refine below_drewN ?_ _) | (with_reducible refine Below.drew ?_) | (with_reducible refine Below.alloc ?_ ?_ _) | (with_reducible refine Below.setCell ?_ ?_ _) | (with_reducible refine Below.trans ?_ (Below.mono (by assumption) ?_)) | (with_reducible exact Nat.le_refl _) | (with_reducible assumption) | omega | (simp; omega) | (simp; done)))⟩
  | false =>
    have e : inE q a = false := by simp [inE, h]
    have HE := Lib.hid e; clear e
    go_enter Try.func21, Try.ntmps21
    go_wp2_with (first | (go_at_call 28; refine (fdSize_any _ _).mono ?_; rintro e w1 ⟨rfl, hb⟩; have hz_hb := hb.size; (try simp at hz_hb)))
    go_ret
    exact ⟨ret_bool HE.out.symm, by (repeat' (first | (with_reducible assumption) | (with_reducible exact Below.refl _ _) | (with_reducible refine below_drewN ?_ _) | (with_reducible refine Below.drew ?_) | (with_reducible refine Below.alloc ?_ ?_ _) | (with_reducible refine Below.setCell ?_ ?_ _) | (with_reducible refine Below.trans ?_ (Below.mono (by assumption) ?_)) | (with_reducible exact Nat.le_refl _) | (with_reducible assumption) | omega | (simp; omega) | (simp; done)))⟩

/-- impl.field.has. -/
theorem has_yes (q a : Int) (w : World) (a0 : 0 ≤ a) (a1 : a < q) :
    Calls Try.prog 66 #[fdE q, .int .i64 a] w fun e w' => e = .returned (.bool true) ∧ Below w.heap.size w w' := by
  go_enter Try.func66, Try.ntmps66
  go_wp2
  go_ret
  exact ⟨rfl, by (repeat' (first | (with_reducible assumption) | (with_reducible exact Below.refl _ _) | (with_reducible refine below_drewN ?_ _) | (with_reducible refine Below.drew ?_) | (with_reducible refine Below.alloc ?_ ?_ _) | (with_reducible refine Below.setCell ?_ ?_ _) | (with_reducible refine Below.trans ?_ (Below.mono (by assumption) ?_)) | (with_reducible exact Nat.le_refl _) | (with_reducible assumption) | omega | (simp; omega) | (simp; done)))⟩
theorem has_low (q a : Int) (w : World) (a0 : a < 0) :
    Calls Try.prog 66 #[fdE q, .int .i64 a] w fun e w' => e = .returned (.bool false) ∧ Below w.heap.size w w' := by
  go_enter Try.func66, Try.ntmps66
  go_wp2
  go_ret
  exact ⟨rfl, by (repeat' (first | (with_reducible assumption) | (with_reducible exact Below.refl _ _) | (with_reducible refine below_drewN ?_ _) | (with_reducible refine Below.drew ?_) | (with_reducible refine Below.alloc ?_ ?_ _) | (with_reducible refine Below.setCell ?_ ?_ _) | (with_reducible refine Below.trans ?_ (Below.mono (by assumption) ?_)) | (with_reducible exact Nat.le_refl _) | (with_reducible assumption) | omega | (simp; omega) | (simp; done)))⟩
theorem has_high (q a : Int) (w : World) (a0 : 0 ≤ a) (a1 : q ≤ a) :
    Calls Try.prog 66 #[fdE q, .int .i64 a] w fun e w' => e = .returned (.bool false) ∧ Below w.heap.size w w' := by
  go_enter Try.func66, Try.ntmps66
  go_wp2
  go_ret
  exact ⟨ret_bool (by simp; omega), by (repeat' (first | (with_reducible assumption) | (with_reducible exact Below.refl _ _) | (with_reducible refine below_drewN ?_ _) | (with_reducible refine Below.drew ?_) | (with_reducible refine Below.alloc ?_ ?_ _) | (with_reducible refine Below.setCell ?_ ?_ _) | (with_reducible refine Below.trans ?_ (Below.mono (by assumption) ?_)) | (with_reducible exact Nat.le_refl _) | (with_reducible assumption) | omega | (simp; omega) | (simp; done)))⟩

/-- The block of an element's zero value. -/
abbrev zblk : Obj := .cells #[.int .i64 0, .int .i64 0, .int .i64 0, .int .i64 0, .int .i64 0, .int .i64 0, .int .i64 0] 46
/-- The element of a call that fails. -/
abbrev elZ : Value := .agg #[.int .i64 0, .int .i64 0, .int .i64 0, .int .i64 0, .int .i64 0, .int .i64 0, .int .i64 0]

set_option maxHeartbeats 1000000 in
/-- impl.elementOf. -/
theorem elementOf_yes (q a : Int) (w : World) (h : inE q a = true) :
    Calls Try.prog 38 #[.int .i64 q, .int .i64 a] w fun e w' => e = .returned (.tuple #[elE q a, .bool true]) ∧ Below w.heap.size w w' := by
  obtain ⟨hs, a0, a1⟩ := inE_yes h
  clear h
  have HE := Lib.hid (fun w => elementE q a w hs a0 a1)
  have HS := Lib.hid (fun w => fieldOf_yes q w hs)
  clear hs
  go_enter Try.func38, Try.ntmps38
  go_wp2_with (first | (go_at_call 40; refine (HS.out _).mono ?_; rintro e w1 ⟨rfl, hb1⟩; obtain ⟨hc1, hf1⟩ := bcell hb1; have hz1 := hb1.size; (try simp at hz1); have HB1 := Lib.hid hb1; clear hb1; have hl0 : w.heap.size < w1.heap.size := (by omega)) | (go_at_call 66; refine (has_yes _ _ _ a0 a1).mono ?_; rintro e w2 ⟨rfl, hb2⟩; obtain ⟨hc2, hf2⟩ := bcell hb2; have hz2 := hb2.size; (try simp at hz2); have HB2 := Lib.hid hb2; clear hb2; have hl2 : w1.heap.size < w2.heap.size := (by omega); have hl1 : w.heap.size < w2.heap.size := (by omega)) | (go_at_call 43; refine (HE.out _).mono ?_; rintro e w3 ⟨rfl, hb3⟩; obtain ⟨hc3, hf3⟩ := bcell hb3; have hz3 := hb3.size; (try simp at hz3); have HB3 := Lib.hid hb3; clear hb3; have hl3 : w.heap.size < w3.heap.size := (by omega)))
  have hb1 := HB1.out
  have hb2 := HB2.out
  have hb3 := HB3.out
  have r : ∀ o, w3.cell? ⟨w.heap.size, o, none⟩ = (w.alloc zblk).cell? ⟨w.heap.size, o, none⟩ := fun o => Below.cell (B := w.heap.size + 1) (by (repeat' (first | (with_reducible assumption) | (with_reducible exact Below.refl _ _) | (with_reducible refine below_drewN ?_ _) | (with_reducible refine Below.drew ?_) | (with_reducible refine Below.alloc ?_ ?_ _) | (with_reducible refine Below.setCell ?_ ?_ _) | (with_reducible refine Below.trans ?_ (Below.mono (by assumption) ?_)) | (with_reducible exact Nat.le_refl _) | (with_reducible assumption) | omega | (simp; omega) | (simp; done)))) (by simp)
  refine bodyPost_ret (v := .tuple #[elE q a, .bool true]) (by simp [results, Try.results38, go_sem, r, zblk]) rfl ⟨rfl, ?_⟩
  (repeat' (first | (with_reducible assumption) | (with_reducible exact Below.refl _ _) | (with_reducible refine below_drewN ?_ _) | (with_reducible refine Below.drew ?_) | (with_reducible refine Below.alloc ?_ ?_ _) | (with_reducible refine Below.setCell ?_ ?_ _) | (with_reducible refine Below.trans ?_ (Below.mono (by assumption) ?_)) | (with_reducible exact Nat.le_refl _) | (with_reducible assumption) | omega | (simp; omega) | (simp; done)))
end Go.Proofs.Ythklnfanbegecac
