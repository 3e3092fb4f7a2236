/- impl.element.isZero, order; impl.nonzeroOf by contracts. -/
import Derived.Test.YtjlkodkmipmjiabT
import Derived.Test.YtjlkodkmipmjiabL
namespace Go.Proofs.Ytjlkodkmipmjiab
open Go.RowKit
theorem eq_arr (t : TypeId) (ht : Try.prog.underlying t = some (.array 4 3)) (a b c e a' b' c' e' : Int) (d : Nat) (w : World) :
    (Op.equalIn (d + 1 + 1) t (.agg #[.int .i64 a, .int .i64 b, .int .i64 c, .int .i64 e]) (.agg #[.int .i64 a', .int .i64 b', .int .i64 c', .int .i64 e'])).run Try.prog w = .ok (decide (a = a') && (decide (b = b') && (decide (c = c') && decide (e = e')))) w := by
  rw [Op.equalIn]
  have r4 : List.range' 0 4 = [0, 1, 2, 3] := rfl
  simp [run_underlying ht, go_sem, r4, List.forIn_cons, run_equalIn_int _ _ _ _ _ _ _ Try.underlying3]
  by_cases h1 : a = a' <;> by_cases h2 : b = b' <;> by_cases h3 : c = c' <;> by_cases h4 : e = e' <;> simp [h1, h2, h3, h4, go_sem]
theorem eq_arr0 (a b c e : Int) (w : World) : (Op.equalIn 10000 39 (.agg #[.int .i64 a, .int .i64 b, .int .i64 c, .int .i64 e]) (.agg #[.int .i64 0, .int .i64 0, .int .i64 0, .int .i64 0])).run Try.prog w = .ok (decide (a = 0) && (decide (b = 0) && (decide (c = 0) && decide (e = 0)))) w :=
  eq_arr 39 Try.underlying39 a b c e 0 0 0 0 9998 w
theorem eq_elem (q p k a b c e a' b' c' e' : Int) (w : World) : (Op.equalIn 10000 41 (.agg #[.int .i64 q, .int .i64 p, .int .i64 k, .int .i64 a, .int .i64 b, .int .i64 c, .int .i64 e]) (.agg #[.int .i64 q, .int .i64 p, .int .i64 k, .int .i64 a', .int .i64 b', .int .i64 c', .int .i64 e'])).run Try.prog w = .ok (decide (a = a') && (decide (b = b') && (decide (c = c') && decide (e = e')))) w := by
  have hE := fun w => eq_arr 39 Try.underlying39 a b c e a' b' c' e' 9997 w
  simp [go_sem, part, hE]
  by_cases h1 : a = a' <;> by_cases h2 : b = b' <;> by_cases h3 : c = c' <;> by_cases h4 : e = e' <;> simp [h1, h2, h3, h4]

theorem zero_dg (q a : Int) (hq : isSz q = true) (a0 : 0 ≤ a) (a1 : a < q) : (decide (dg q a 0 = 0) && (decide (dg q a 1 = 0) && (decide (dg q a 2 = 0) && decide (dg q a 3 = 0)))) = decide (a = 0) :=
  of_decide_eq_true (of_chk1 (f := fun q a => decide ((decide (dg q a 0 = 0) && (decide (dg q a 1 = 0) && (decide (dg q a 2 = 0) && decide (dg q a 3 = 0)))) = decide (a = 0))) (by decide +kernel) q a hq a0 a1)
set_option maxHeartbeats 400000 in
/-- impl.element.isZero. -/
theorem isZeroE (q a : Int) (w : World) (h : isSz q = true) (a0 : 0 ≤ a) (a1 : a < q) :
    Calls Try.prog 64 #[elE q a] w fun e w' => e = .returned (.bool (decide (a = 0))) ∧ Below w.heap.size w w' := by
  have hz : ∀ w, (Op.equalIn 10000 39 (.agg #[.int .i64 (dg q a 0), .int .i64 (dg q a 1), .int .i64 (dg q a 2), .int .i64 (dg q a 3)]) (.agg #[.int .i64 0, .int .i64 0, .int .i64 0, .int .i64 0])).run Try.prog w = .ok (decide (a = 0)) w :=
    fun w => by rw [← zero_dg q a h a0 a1]; exact eq_arr0 _ _ _ _ w
  have HZ := Lib.hid hz; clear hz
  clear h a0 a1
  go_enter Try.func64, Try.ntmps64
  go_wp2_with (simp only [HZ.out, Result.andThen_ok])
  go_ret
  exact ⟨rfl, by (repeat' (first | (with_reducible assumption) | (with_reducible exact Below.refl _ _) | (with_reducible refine below_drewN ?_ _) | (with_reducible refine Below.drew ?_) | (with_reducible refine Below.alloc ?_ ?_ _) | (with_reducible refine Below.setCell ?_ ?_ _) | (with_reducible refine Below.trans ?_ (Below.mono (by assumption) ?_)) | (with_reducible exact Nat.le_refl _) | (with_reducible assumption) | omega | (simp; omega) | (simp; done)))⟩

/-- q is a size and a an element other than 0. -/
def inN (q a : Int) : Bool := inE q a && !decide (a = 0)
theorem inN_yes {q a : Int} (h : inN q a = true) : inE q a = true ∧ isSz q = true ∧ 0 < a ∧ a < q := by
  simp only [inN, Bool.and_eq_true, Bool.not_eq_true', decide_eq_false_iff_not] at h
  obtain ⟨h1, h2, h3⟩ := inE_yes h.1
  exact ⟨h.1, h1, by omega, h3⟩
set_option maxHeartbeats 1000000 in
/-- impl.nonzeroOf. -/
theorem nonzeroOf_yes (q a : Int) (w : World) (h : inN q a = true) :
    Calls Try.prog 42 #[.int .i64 q, .int .i64 a] w fun e w' => e = .returned (.tuple #[elE q a, .bool true]) ∧ Below w.heap.size w w' := by
  obtain ⟨hi, hs, a0, a1⟩ := inN_yes h
  have HE := Lib.hid (fun w => elementOf_yes q a w hi)
  have HZ := Lib.hid (fun w => isZeroE q a w hs (by omega) a1)
  have ht : decide (a = 0) = false := by simp; omega
  simp only [ht] at HZ
  clear h hi hs ht
  go_enter Try.func42, Try.ntmps42
  go_wp2_with fail
  refine (HE.out _).mono ?_
  rintro e w1 ⟨rfl, hb1⟩
  obtain ⟨hc1, hf1⟩ := bcell hb1; have hz1 := hb1.size; (try simp at hz1); have HB1 := Lib.hid hb1; clear hb1
  have hl0 : w.heap.size < w1.heap.size := by omega
  go_wp2_with fail
  refine (HZ.out _).mono ?_
  rintro e w2 ⟨rfl, hb2⟩
  obtain ⟨hc2, hf2⟩ := bcell hb2; have hz2 := hb2.size; (try simp at hz2); have HB2 := Lib.hid hb2; clear hb2
  have hl1 : w.heap.size < w2.heap.size := by omega
  have hl2 : w1.heap.size < w2.heap.size := by omega
  go_wp2_with fail
  have hb1 := HB1.out
  have hb2 := HB2.out
  have r : ∀ o, w2.cell? ⟨w.heap.size, o, none⟩ = (w.alloc zblk).cell? ⟨w.heap.size, o, none⟩ := fun o => Below.cell (B := w.heap.size + 1) (by (repeat' (first | (with_reducible assumption) | (with_reducible exact Below.refl _ _) | (with_reducible refine below_drewN ?_ _) | (with_reducible refine Below.drew ?_) | (with_reducible refine Below.alloc ?_ ?_ _) | (with_reducible refine Below.setCell ?_ ?_ _) | (with_reducible refine Below.trans ?_ (Below.mono (by assumption) ?_)) | (with_reducible exact Nat.le_refl _) | (with_reducible assumption) | omega | (simp; omega) | (simp; done)))) (by simp)
  refine bodyPost_ret (v := .tuple #[elE q a, .bool true]) (by simp [results, Try.results42, go_sem, r, zblk]) rfl ⟨rfl, ?_⟩
  (repeat' (first | (with_reducible assumption) | (with_reducible exact Below.refl _ _) | (with_reducible refine below_drewN ?_ _) | (with_reducible refine Below.drew ?_) | (with_reducible refine Below.alloc ?_ ?_ _) | (with_reducible refine Below.setCell ?_ ?_ _) | (with_reducible refine Below.trans ?_ (Below.mono (by assumption) ?_)) | (with_reducible exact Nat.le_refl _) | (with_reducible assumption) | omega | (simp; omega) | (simp; done)))
theorem nonzeroOf_no1 (q a : Int) (w : World) (h : inE q a = false) :
    Calls Try.prog 42 #[.int .i64 q, .int .i64 a] w fun e w' => e = .returned (.tuple #[elZ, .bool false]) ∧ Below w.heap.size w w' := by
  have HE := Lib.hid (fun w => elementOf_no q a w h)
  clear h
  go_enter Try.func42, Try.ntmps42
  go_wp2_with fail
  refine (HE.out _).mono ?_
  rintro e w1 ⟨rfl, hb1⟩
  obtain ⟨hc1, hf1⟩ := bcell hb1; have hz1 := hb1.size; (try simp at hz1); have HB1 := Lib.hid hb1; clear hb1
  have hl0 : w.heap.size < w1.heap.size := by omega
  go_wp2_with fail
  have hb1 := HB1.out
  have r : ∀ o, w1.cell? ⟨w.heap.size, o, none⟩ = (w.alloc zblk).cell? ⟨w.heap.size, o, none⟩ := fun o => Below.cell (B := w.heap.size + 1) (by (repeat' (first | (with_reducible assumption) | (with_reducible exact Below.refl _ _) | (with_reducible refine below_drewN ?_ _) | (with_reducible refine Below.drew ?_) | (with_reducible refine Below.alloc ?_ ?_ _) | (with_reducible refine Below.setCell ?_ ?_ _) | (with_reducible refine Below.trans ?_ (Below.mono (by assumption) ?_)) | (with_reducible exact Nat.le_refl _) | (with_reducible assumption) | omega | (simp; omega) | (simp; done)))) (by simp)
  refine bodyPost_ret (v := .tuple #[elZ, .bool false]) (by simp [results, Try.results42, go_sem, r, zblk, hl0]) rfl ⟨rfl, ?_⟩
  (repeat' (first | (with_reducible assumption) | (with_reducible exact Below.refl _ _) | (with_reducible refine below_drewN ?_ _) | (with_reducible refine Below.drew ?_) | (with_reducible refine Below.alloc ?_ ?_ _) | (with_reducible refine Below.setCell ?_ ?_ _) | (with_reducible refine Below.trans ?_ (Below.mono (by assumption) ?_)) | (with_reducible exact Nat.le_refl _) | (with_reducible assumption) | omega | (simp; omega) | (simp; done)))
set_option maxHeartbeats 1000000 in
theorem nonzeroOf_no2 (q : Int) (w : World) (h : isSz q = true) :
    Calls Try.prog 42 #[.int .i64 q, .int .i64 0] w fun e w' => e = .returned (.tuple #[elZ, .bool false]) ∧ Below w.heap.size w w' := by
  have hq := isSz_le q h
  have hi : inE q 0 = true := by simp [inE, h]; omega
  have HE := Lib.hid (fun w => elementOf_yes q 0 w hi)
  have HZ := Lib.hid (fun w => isZeroE q 0 w h (Int.le_refl _) (by omega))
  simp only [decide_true] at HZ
  clear h hi
  go_enter Try.func42, Try.ntmps42
  go_wp2_with fail
  refine (HE.out _).mono ?_
  rintro e w1 ⟨rfl, hb1⟩
  obtain ⟨hc1, hf1⟩ := bcell hb1; have hz1 := hb1.size; (try simp at hz1); have HB1 := Lib.hid hb1; clear hb1
  have hl0 : w.heap.size < w1.heap.size := by omega
  go_wp2_with fail
  refine (HZ.out _).mono ?_
  rintro e w2 ⟨rfl, hb2⟩
  obtain ⟨hc2, hf2⟩ := bcell hb2; have hz2 := hb2.size; (try simp at hz2); have HB2 := Lib.hid hb2; clear hb2
  have hl1 : w.heap.size < w2.heap.size := by omega
  have hl2 : w1.heap.size < w2.heap.size := by omega
  go_wp2_with fail
  have hb1 := HB1.out
  have hb2 := HB2.out
  have r : ∀ o, w2.cell? ⟨w.heap.size, o, none⟩ = (w.alloc zblk).cell? ⟨w.heap.size, o, none⟩ := fun o => Below.cell (B := w.heap.size + 1) (by (repeat' (first | (with_reducible assumption) | (with_reducible exact Below.refl _ _) | (with_reducible refine below_drewN ?_ _) | (with_reducible refine Below.drew ?_) | (with_reducible refine Below.alloc ?_ ?_ _) | (with_reducible refine Below.setCell ?_ ?_ _) | (with_reducible refine Below.trans ?_ (Below.mono (by assumption) ?_)) | (with_reducible exact Nat.le_refl _) | (with_reducible assumption) | omega | (simp; omega) | (simp; done)))) (by simp)
  refine bodyPost_ret (v := .tuple #[elZ, .bool false]) (by simp [results, Try.results42, go_sem, r, zblk]) rfl ⟨rfl, ?_⟩
  (repeat' (first | (with_reducible assumption) | (with_reducible exact Below.refl _ _) | (with_reducible refine below_drewN ?_ _) | (with_reducible refine Below.drew ?_) | (with_reducible refine Below.alloc ?_ ?_ _) | (with_reducible refine Below.setCell ?_ ?_ _) | (with_reducible refine Below.trans ?_ (Below.mono (by assumption) ?_)) | (with_reducible exact Nat.le_refl _) | (with_reducible assumption) | omega | (simp; omega) | (simp; done)))
end Go.Proofs.Ytjlkodkmipmjiab
