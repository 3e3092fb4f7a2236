/- LeastValues, MostValues, of both, by contracts; the walks of their laws. -/
import Derived.Test.YtapglncgicfjnabGreatKM
import Derived.Deep.RegionWith
namespace Go.Proofs.YtapglncgicfjnabGreat
open Go.RowKit
/-- A size with a degree. -/
def dOK (q d least : Int) : Bool := isSz q && (decide (least ≤ d) && decide (d < q))
theorem quo_nat (a b : Nat) (hb : 1 ≤ b) (ha : a ≤ 100) (hb2 : b ≤ 100) : ((a : Int) + b - 1).tdiv b = (((a + b - 1) / b : Nat) : Int) ∧ (a + b - 1) / b ≤ a + b - 1 := by
  constructor
  · rw [show (a : Int) + b - 1 = ((a + b - 1 : Nat) : Int) by omega]
    rfl
  · exact Nat.div_le_self _ _
set_option maxHeartbeats 1000000 in
theorem roundedUpE (a b : Nat) (w : World) (hb : 1 ≤ b) (ha : a ≤ 100) (hb2 : b ≤ 100) :
    Calls Tryz.prog 90 #[.int .i64 a, .int .i64 b] w fun e w' => e = .returned (.int .i64 ((a + b - 1) / b : Nat)) ∧ w = w' := by
  obtain ⟨h1, h2⟩ := quo_nat a b hb ha hb2
  generalize (a + b - 1) / b = d at *
  have hb0 : ¬ b = 0 := by omega
  have w1 : IntKind.i64.wrap ((a : Int) + b) = (a : Int) + b := IntWalk.i64_in _ (by omega)
  have w2 : IntKind.i64.wrap ((a : Int) + b - 1) = (a : Int) + b - 1 := IntWalk.i64_in _ (by omega)
  have w3 : IntKind.i64.wrap (d : Int) = (d : Int) := IntWalk.i64_in _ (by omega)
  go_enter Tryz.func90, Tryz.ntmps90
  go_wp2
  go_ret
  exact ⟨rfl, rfl⟩
theorem results_row_and' {P : Program} {fn : Func} {p s : Tmp} {ty : TypeId} (h : fn.results = #[.cell p ty, .tmp s]) (tmps : Array Value) (w : World) (g : Nat) (cs : Array Value) (u : Value)
    (hp : tmps.getD p undef = .pointer (some ⟨g, 0, none⟩)) (hs : tmps.getD s undef = u) (hl : (loadVar ty ⟨g, 0, none⟩).run P w = .ok (.agg cs) w) :
    (results fn tmps).run P w = .ok (.tuple #[.agg cs, u]) w := by
  have hp' : tmps[p]?.getD undef = .pointer (some ⟨g, 0, none⟩) := by simpa using hp
  have hs' : tmps[s]?.getD undef = u := by simpa using hs
  simp [results, h, hp', hs', asAddr, hl]
theorem three_set {w : World} {b : Nat} {x0 x1 x2 : Value} (y0 y1 y2 : Value) (h : w.heap[b]? = some (.cells #[x0, x1, x2] 61 (0, 0))) : (((w.setCell ⟨b, 0, none⟩ y0).setCell ⟨b, 1, none⟩ y1).setCell ⟨b, 2, none⟩ y2).heap[b]? = some (.cells #[y0, y1, y2] 61 (0, 0)) :=
  heap_setCell_same _ _ _ _ _ _ (heap_setCell_same _ _ _ _ _ _ (heap_setCell_same _ _ _ _ _ _ h))
set_option maxHeartbeats 2000000 in
theorem fieldWithDegree_yes (m d least : Int) (w : World) (h : dOK m d least = true) :
    Calls Tryz.prog 89 #[.int .i64 m, .int .i64 d, .int .i64 least] w fun e w' => e = .returned (.tuple #[fdE m, .bool true]) ∧ Below w.heap.size w w' := by
  simp only [dOK, Bool.and_eq_true, decide_eq_true_iff] at h
  obtain ⟨hs, h1, h2⟩ := h
  have HF := Lib.hid (fun w => fieldOf_yes m w hs)
  have h1' : ¬ d < least := by omega
  have h2' : ¬ m ≤ d := by omega
  clear hs
  go_enter Tryz.func89, Tryz.ntmps89
  go_wp2_with fail
  refine (HF.out _).mono ?_
  rintro e w1 ⟨rfl, hb1⟩
  have q0 : w1.heap[w.heap.size]? = some (.cells #[.int .i64 0, .int .i64 0, .int .i64 0] 61 (0, 0)) := (hb1.block _ (by simp)).trans (heap_alloc_new w _)
  obtain ⟨x0, x1, x2, xf, xl⟩ := cells3' q0
  have l1 : w.heap.size < w1.heap.size := xl
  obtain ⟨hc1, hf1⟩ := bcell hb1; have hz1 := hb1.size; (try simp at hz1); have HB1 := Lib.hid hb1; clear hb1
  go_wp2_with fail
  have hb1 := HB1.out
  refine bodyPost_ret (v := .tuple #[fdE m, .bool true]) (results_row_and' rfl _ _ w.heap.size #[.int .i64 m, .int .i64 (pr m), .int .i64 (pl m)] _ rfl rfl (run_loadVar_row _ _ 61 61 _ (0, 0) _ ?hh Tryz.underlying61 rfl ?hi)) rfl ⟨rfl, ?_⟩
  case hi => kernel_rfl
  case hh => exact (Below.heap_alloc _ _ _ (by simp; exact l1)).trans (three_set _ _ _ q0)
  (repeat' (first | (with_reducible assumption) | (with_reducible exact Below.refl _ _) | (with_reducible refine below_drewN ?_ _) | (with_reducible refine Below.drew ?_) | (with_reducible refine Below.alloc ?_ ?_ _) | (with_reducible refine Below.setCell ?_ ?_ _) | (with_reducible refine Below.trans ?_ (Below.mono (by assumption) ?_)) | (with_reducible exact Nat.le_refl _) | (with_reducible assumption) | omega | (simp; omega) | (simp; done)))
set_option maxHeartbeats 2000000 in
theorem fieldWithDegree_no (q d least : Int) (w : World) (h : dOK q d least = false) :
    Calls Tryz.prog 89 #[.int .i64 q, .int .i64 d, .int .i64 least] w fun e w' => e = .returned (.tuple #[.agg #[.int .i64 0, .int .i64 0, .int .i64 0], .bool false]) ∧ Below w.heap.size w w' := by
  cases hs : isSz q with
  | false =>
    have HF := Lib.hid (fun w => fieldOf_no q w hs)
    clear hs h
    go_enter Tryz.func89, Tryz.ntmps89
    go_wp2_with fail
    refine (HF.out _).mono ?_
    rintro e w1 ⟨rfl, hb1⟩
    have q0 : w1.heap[w.heap.size]? = some (.cells #[.int .i64 0, .int .i64 0, .int .i64 0] 61 (0, 0)) := (hb1.block _ (by simp)).trans (heap_alloc_new w _)
    obtain ⟨x0, x1, x2, xf, xl⟩ := cells3' q0
    have l1 : w.heap.size < w1.heap.size := xl
    obtain ⟨hc1, hf1⟩ := bcell hb1; have hz1 := hb1.size; (try simp at hz1); have HB1 := Lib.hid hb1; clear hb1
    go_wp2_with fail
    have hb1 := HB1.out
    refine bodyPost_ret (v := .tuple #[.agg #[.int .i64 0, .int .i64 0, .int .i64 0], .bool false]) (results_row_and' rfl _ _ w.heap.size #[.int .i64 0, .int .i64 0, .int .i64 0] _ rfl rfl (run_loadVar_row _ _ 61 61 _ (0, 0) _ ?hh Tryz.underlying61 rfl ?hi)) rfl ⟨rfl, ?_⟩
    case hi => kernel_rfl
    case hh => exact (Below.heap_alloc _ _ _ (by simp; exact l1)).trans (three_set _ _ _ q0)
    (repeat' (first | (with_reducible assumption) | (with_reducible exact Below.refl _ _) | (with_reducible refine below_drewN ?_ _) | (with_reducible refine Below.drew ?_) | (with_reducible refine Below.alloc ?_ ?_ _) | (with_reducible refine Below.setCell ?_ ?_ _) | (with_reducible refine Below.trans ?_ (Below.mono (by assumption) ?_)) | (with_reducible exact Nat.le_refl _) | (with_reducible assumption) | omega | (simp; omega) | (simp; done)))
  | true =>
    have HF := Lib.hid (fun w => fieldOf_yes q w hs)
    have hc : d < least ∨ (¬ d < least ∧ q ≤ d) := by
      simp only [dOK, hs, Bool.true_and, Bool.and_eq_false_iff, decide_eq_false_iff_not] at h
      omega
    clear hs h
    rcases hc with h1 | ⟨h1, h2⟩
    all_goals
      go_enter Tryz.func89, Tryz.ntmps89
      go_wp2_with fail
      refine (HF.out _).mono ?_
      rintro e w1 ⟨rfl, hb1⟩
      have q0 : w1.heap[w.heap.size]? = some (.cells #[.int .i64 0, .int .i64 0, .int .i64 0] 61 (0, 0)) := (hb1.block _ (by simp)).trans (heap_alloc_new w _)
      obtain ⟨x0, x1, x2, xf, xl⟩ := cells3' q0
      have l1 : w.heap.size < w1.heap.size := xl
      obtain ⟨hc1, hf1⟩ := bcell hb1; have hz1 := hb1.size; (try simp at hz1); have HB1 := Lib.hid hb1; clear hb1
      go_wp2_with fail
      have hb1 := HB1.out
      refine bodyPost_ret (v := .tuple #[.agg #[.int .i64 0, .int .i64 0, .int .i64 0], .bool false]) (results_row_and' rfl _ _ w.heap.size #[.int .i64 0, .int .i64 0, .int .i64 0] _ rfl rfl (run_loadVar_row _ _ 61 61 _ (0, 0) _ ?hh Tryz.underlying61 rfl ?hi)) rfl ⟨rfl, ?_⟩
      case hi => kernel_rfl
      case hh => exact (Below.heap_alloc _ _ _ (by simp; exact l1)).trans (three_set _ _ _ q0)
      (repeat' (first | (with_reducible assumption) | (with_reducible exact Below.refl _ _) | (with_reducible refine below_drewN ?_ _) | (with_reducible refine Below.drew ?_) | (with_reducible refine Below.alloc ?_ ?_ _) | (with_reducible refine Below.setCell ?_ ?_ _) | (with_reducible refine Below.trans ?_ (Below.mono (by assumption) ?_)) | (with_reducible exact Nat.le_refl _) | (with_reducible assumption) | omega | (simp; omega) | (simp; done)))
set_option maxHeartbeats 2000000 in
theorem vaDegree_any (q d : Int) (w : World) :
    Calls Tryz.prog 91 #[.int .i64 q, .int .i64 d] w fun e w' => e = .returned (.bool (dOK q d 1)) ∧ Below w.heap.size w w' := by
  have HS := Lib.hid (fun w => fdSize_any q w)
  have HI := Lib.hid (fun w => l1In_any d 1 (q - 1) w)
  cases h : isSz q with
  | false =>
    have HD : Hid (dOK q d 1 = false) := Lib.hid (by simp [dOK, h])
    rw [h] at HS
    rw [HD.out]
    clear h
    go_enter Tryz.func91, Tryz.ntmps91
    go_wp2_with fail
    refine (HS.out _).mono ?_
    rintro e w1 ⟨rfl, hb1⟩
    obtain ⟨hc1, hf1⟩ := bcell hb1; have hz1 := hb1.size; (try simp at hz1); have HB1 := Lib.hid hb1; clear hb1
    go_wp2
    go_ret
    have hb1 := HB1.out
    exact ⟨rfl, by (repeat' (first | (with_reducible assumption) | (with_reducible exact Below.refl _ _) | (with_reducible refine below_drewN ?_ _) | (with_reducible refine Below.drew ?_) | (with_reducible refine Below.alloc ?_ ?_ _) | (with_reducible refine Below.setCell ?_ ?_ _) | (with_reducible refine Below.trans ?_ (Below.mono (by assumption) ?_)) | (with_reducible exact Nat.le_refl _) | (with_reducible assumption) | omega | (simp; omega) | (simp; done)))⟩
  | true =>
    have hq := isSz_le q h
    have HD : Hid (dOK q d 1 = (decide (1 ≤ d) && decide (d ≤ q - 1))) := Lib.hid (by rw [dOK, h, Bool.true_and]; congr 1; rw [decide_eq_decide]; omega)
    rw [h] at HS
    rw [HD.out]
    have hwr : IntKind.i64.wrap (q - 1) = q - 1 := IntWalk.i64_in _ (by omega)
    clear h
    go_enter Tryz.func91, Tryz.ntmps91
    go_wp2_with fail
    refine (HS.out _).mono ?_
    rintro e w1 ⟨rfl, hb1⟩
    obtain ⟨hc1, hf1⟩ := bcell hb1; have hz1 := hb1.size; (try simp at hz1); have HB1 := Lib.hid hb1; clear hb1
    go_wp2_with fail
    refine (HI.out _).mono ?_
    rintro e _ ⟨rfl, rfl⟩
    go_wp2
    go_ret
    have hb1 := HB1.out
    exact ⟨rfl, by (repeat' (first | (with_reducible assumption) | (with_reducible exact Below.refl _ _) | (with_reducible refine below_drewN ?_ _) | (with_reducible refine Below.drew ?_) | (with_reducible refine Below.alloc ?_ ?_ _) | (with_reducible refine Below.setCell ?_ ?_ _) | (with_reducible refine Below.trans ?_ (Below.mono (by assumption) ?_)) | (with_reducible exact Nat.le_refl _) | (with_reducible assumption) | omega | (simp; omega) | (simp; done)))⟩
theorem dOK_nat {q d : Int} (h : dOK q d 1 = true) : ∃ m D : Nat, q = m ∧ d = D ∧ isSz (m : Int) = true ∧ 1 ≤ D ∧ D < m := by
  simp only [dOK, Bool.and_eq_true, decide_eq_true_iff] at h
  obtain ⟨hs, h1, h2⟩ := h
  have hq := isSz_le q hs
  obtain ⟨m, rfl⟩ := Int.eq_ofNat_of_zero_le (show 0 ≤ q by omega)
  obtain ⟨D, rfl⟩ := Int.eq_ofNat_of_zero_le (show 0 ≤ d by omega)
  exact ⟨m, D, rfl, rfl, hs, by omega, by omega⟩
theorem spec_LeastValues_no (q d : Int) (w : World) (h : dOK q d 1 = false) :
    Calls Tryz.prog 19 #[.int .i64 q, .int .i64 d] w fun e w' => e = .returned (.tuple #[.int .i64 0, .bool false]) ∧ Below w.heap.size w w' := by
  have HD := Lib.hid (fun w => vaDegree_any q d w)
  rw [h] at HD
  clear h
  go_enter Tryz.func19, Tryz.ntmps19
  go_wp2_with fail
  refine (HD.out _).mono ?_
  rintro e w1 ⟨rfl, hb1⟩
  go_wp2
  go_ret2
  exact ⟨rfl, hb1⟩
theorem impl_LeastValues_no (q d : Int) (w : World) (h : dOK q d 1 = false) :
    Calls Tryz.prog 18 #[.int .i64 q, .int .i64 d] w fun e w' => e = .returned (.tuple #[.int .i64 0, .bool false]) ∧ Below w.heap.size w w' := by
  have HD := Lib.hid (fun w => fieldWithDegree_no q d 1 w h)
  clear h
  go_enter Tryz.func18, Tryz.ntmps18
  go_wp2_with fail
  refine (HD.out _).mono ?_
  rintro e w1 ⟨rfl, hb1⟩
  obtain ⟨hc1, hf1⟩ := bcell hb1; have hz1 := hb1.size; (try simp at hz1); have HB1 := Lib.hid hb1; clear hb1
  go_wp2
  go_ret2
  have hb1 := HB1.out
  exact ⟨rfl, by (repeat' (first | (with_reducible assumption) | (with_reducible exact Below.refl _ _) | (with_reducible refine below_drewN ?_ _) | (with_reducible refine Below.drew ?_) | (with_reducible refine Below.alloc ?_ ?_ _) | (with_reducible refine Below.setCell ?_ ?_ _) | (with_reducible refine Below.trans ?_ (Below.mono (by assumption) ?_)) | (with_reducible exact Nat.le_refl _) | (with_reducible assumption) | omega | (simp; omega) | (simp; done)))⟩
theorem spec_MostValues_no (q d : Int) (w : World) (h : dOK q d 1 = false) :
    Calls Tryz.prog 21 #[.int .i64 q, .int .i64 d] w fun e w' => e = .returned (.tuple #[.int .i64 0, .bool false]) ∧ Below w.heap.size w w' := by
  have HD := Lib.hid (fun w => vaDegree_any q d w)
  rw [h] at HD
  clear h
  go_enter Tryz.func21, Tryz.ntmps21
  go_wp2_with fail
  refine (HD.out _).mono ?_
  rintro e w1 ⟨rfl, hb1⟩
  go_wp2
  go_ret2
  exact ⟨rfl, hb1⟩
theorem impl_MostValues_no (q d : Int) (w : World) (h : dOK q d 1 = false) :
    Calls Tryz.prog 20 #[.int .i64 q, .int .i64 d] w fun e w' => e = .returned (.tuple #[.int .i64 0, .bool false]) ∧ Below w.heap.size w w' := by
  have HD := Lib.hid (fun w => fieldWithDegree_no q d 1 w h)
  clear h
  go_enter Tryz.func20, Tryz.ntmps20
  go_wp2_with fail
  refine (HD.out _).mono ?_
  rintro e w1 ⟨rfl, hb1⟩
  obtain ⟨hc1, hf1⟩ := bcell hb1; have hz1 := hb1.size; (try simp at hz1); have HB1 := Lib.hid hb1; clear hb1
  go_wp2
  go_ret2
  have hb1 := HB1.out
  exact ⟨rfl, by (repeat' (first | (with_reducible assumption) | (with_reducible exact Below.refl _ _) | (with_reducible refine below_drewN ?_ _) | (with_reducible refine Below.drew ?_) | (with_reducible refine Below.alloc ?_ ?_ _) | (with_reducible refine Below.setCell ?_ ?_ _) | (with_reducible refine Below.trans ?_ (Below.mono (by assumption) ?_)) | (with_reducible exact Nat.le_refl _) | (with_reducible assumption) | omega | (simp; omega) | (simp; done)))⟩
set_option maxHeartbeats 1000000 in
theorem spec_LeastValues_yes (m D : Nat) (w : World) (h : isSz (m : Int) = true) (h1 : 1 ≤ D) (h2 : D < m) :
    Calls Tryz.prog 19 #[.int .i64 m, .int .i64 D] w fun e w' => e = .returned (.tuple #[.int .i64 ((m + D - 1) / D : Nat), .bool true]) ∧ Below w.heap.size w w' := by
  have hq := isSz_le (m : Int) h
  have HD := Lib.hid (fun w => vaDegree_any (m : Int) (D : Int) w)
  rw [show dOK (m : Int) (D : Int) 1 = true by simp [dOK, h]; omega] at HD
  obtain ⟨e1, e2⟩ := quo_nat m D h1 (by omega) (by omega)
  generalize (m + D - 1) / D = x at *
  have hb0 : ¬ D = 0 := by omega
  have w1 : IntKind.i64.wrap ((m : Int) + D) = (m : Int) + D := IntWalk.i64_in _ (by omega)
  have w2 : IntKind.i64.wrap ((m : Int) + D - 1) = (m : Int) + D - 1 := IntWalk.i64_in _ (by omega)
  have w3 : IntKind.i64.wrap (x : Int) = (x : Int) := IntWalk.i64_in _ (by omega)
  clear h
  go_enter Tryz.func19, Tryz.ntmps19
  go_wp2_with fail
  refine (HD.out _).mono ?_
  rintro e w1 ⟨rfl, hb1⟩
  go_wp2
  go_ret2
  exact ⟨rfl, hb1⟩
set_option maxHeartbeats 1000000 in
theorem impl_LeastValues_yes (m D : Nat) (w : World) (h : isSz (m : Int) = true) (h1 : 1 ≤ D) (h2 : D < m) :
    Calls Tryz.prog 18 #[.int .i64 m, .int .i64 D] w fun e w' => e = .returned (.tuple #[.int .i64 ((m + D - 1) / D : Nat), .bool true]) ∧ Below w.heap.size w w' := by
  have hq := isSz_le (m : Int) h
  have HD := Lib.hid (fun w => fieldWithDegree_yes (m : Int) (D : Int) 1 w (by simp [dOK, h]; omega))
  have HR := Lib.hid (fun w => roundedUpE m D w h1 (by omega) (by omega))
  generalize (m + D - 1) / D = x at *
  clear h
  go_enter Tryz.func18, Tryz.ntmps18
  go_wp2_with fail
  refine (HD.out _).mono ?_
  rintro e w1 ⟨rfl, hb1⟩
  obtain ⟨hc1, hf1⟩ := bcell hb1; have hz1 := hb1.size; (try simp at hz1); have HB1 := Lib.hid hb1; clear hb1
  go_wp2_with fail
  refine (HR.out _).mono ?_
  rintro e _ ⟨rfl, rfl⟩
  go_wp2
  go_ret2
  have hb1 := HB1.out
  exact ⟨rfl, by (repeat' (first | (with_reducible assumption) | (with_reducible exact Below.refl _ _) | (with_reducible refine below_drewN ?_ _) | (with_reducible refine Below.drew ?_) | (with_reducible refine Below.alloc ?_ ?_ _) | (with_reducible refine Below.setCell ?_ ?_ _) | (with_reducible refine Below.trans ?_ (Below.mono (by assumption) ?_)) | (with_reducible exact Nat.le_refl _) | (with_reducible assumption) | omega | (simp; omega) | (simp; done)))⟩
set_option maxHeartbeats 1000000 in
theorem spec_MostValues_yes (m D : Nat) (w : World) (h : isSz (m : Int) = true) (h1 : 1 ≤ D) (h2 : D < m) :
    Calls Tryz.prog 21 #[.int .i64 m, .int .i64 D] w fun e w' => e = .returned (.tuple #[.int .i64 ((m : Int) - ((m - 1 + D - 1) / D : Nat)), .bool true]) ∧ Below w.heap.size w w' := by
  have hq := isSz_le (m : Int) h
  have HD := Lib.hid (fun w => vaDegree_any (m : Int) (D : Int) w)
  rw [show dOK (m : Int) (D : Int) 1 = true by simp [dOK, h]; omega] at HD
  obtain ⟨e1, e2⟩ := quo_nat (m - 1) D h1 (by omega) (by omega)
  rw [show ((m - 1 : Nat) : Int) = (m : Int) - 1 by omega] at e1
  generalize (m - 1 + D - 1) / D = x at *
  have hb0 : ¬ D = 0 := by omega
  have w0 : IntKind.i64.wrap ((m : Int) - 1) = (m : Int) - 1 := IntWalk.i64_in _ (by omega)
  have w1 : IntKind.i64.wrap ((m : Int) - 1 + D) = (m : Int) - 1 + D := IntWalk.i64_in _ (by omega)
  have w2 : IntKind.i64.wrap ((m : Int) - 1 + D - 1) = (m : Int) - 1 + D - 1 := IntWalk.i64_in _ (by omega)
  have w3 : IntKind.i64.wrap (x : Int) = (x : Int) := IntWalk.i64_in _ (by omega)
  have w4 : IntKind.i64.wrap ((m : Int) - x) = (m : Int) - x := IntWalk.i64_in _ (by omega)
  clear h
  go_enter Tryz.func21, Tryz.ntmps21
  go_wp2_with fail
  refine (HD.out _).mono ?_
  rintro e w1 ⟨rfl, hb1⟩
  go_wp2
  go_ret2
  exact ⟨rfl, hb1⟩
set_option maxHeartbeats 1000000 in
theorem impl_MostValues_yes (m D : Nat) (w : World) (h : isSz (m : Int) = true) (h1 : 1 ≤ D) (h2 : D < m) :
    Calls Tryz.prog 20 #[.int .i64 m, .int .i64 D] w fun e w' => e = .returned (.tuple #[.int .i64 ((m : Int) - ((m - 1 + D - 1) / D : Nat)), .bool true]) ∧ Below w.heap.size w w' := by
  have hq := isSz_le (m : Int) h
  have HD := Lib.hid (fun w => fieldWithDegree_yes (m : Int) (D : Int) 1 w (by simp [dOK, h]; omega))
  have hr := fun w => roundedUpE (m - 1) D w h1 (by omega) (by omega)
  have e2 : (m - 1 + D - 1) / D ≤ m - 1 + D - 1 := Nat.div_le_self _ _
  rw [show ((m - 1 : Nat) : Int) = (m : Int) - 1 by omega] at hr
  have HR := Lib.hid hr
  clear hr
  generalize (m - 1 + D - 1) / D = x at *
  have w0 : IntKind.i64.wrap ((m : Int) - 1) = (m : Int) - 1 := IntWalk.i64_in _ (by omega)
  have w4 : IntKind.i64.wrap ((m : Int) - x) = (m : Int) - x := IntWalk.i64_in _ (by omega)
  clear h
  go_enter Tryz.func20, Tryz.ntmps20
  go_wp2_with fail
  refine (HD.out _).mono ?_
  rintro e w1 ⟨rfl, hb1⟩
  obtain ⟨hc1, hf1⟩ := bcell hb1; have hz1 := hb1.size; (try simp at hz1); have HB1 := Lib.hid hb1; clear hb1
  go_wp2_with fail
  go_region_with (go_at_call 90; refine (HR.out _).mono ?_; rintro e _ ⟨rfl, rfl⟩)
  all_goals
    go_wp2
    go_ret2
    have hb1 := HB1.out
    exact ⟨rfl, by (repeat' (first | (with_reducible assumption) | (with_reducible exact Below.refl _ _) | (with_reducible refine below_drewN ?_ _) | (with_reducible refine Below.drew ?_) | (with_reducible refine Below.alloc ?_ ?_ _) | (with_reducible refine Below.setCell ?_ ?_ _) | (with_reducible refine Below.trans ?_ (Below.mono (by assumption) ?_)) | (with_reducible exact Nat.le_refl _) | (with_reducible assumption) | omega | (simp; omega) | (simp; done)))⟩
theorem key_LeastValues (q : Int) (degree : Int) : ∃ (r : Int) (o : Bool), (∀ (w : World), Calls Tryz.prog 19 #[.int .i64 q, .int .i64 degree] w fun e w' => e = .returned (.tuple #[.int .i64 r, .bool o]) ∧ Below w.heap.size w w') ∧
      (∀ (w : World), Calls Tryz.prog 18 #[.int .i64 q, .int .i64 degree] w fun e w' => e = .returned (.tuple #[.int .i64 r, .bool o]) ∧ Below w.heap.size w w') := by
  cases h : dOK q degree 1 with
  | false => exact ⟨0, false, fun w => spec_LeastValues_no q degree w h, fun w => impl_LeastValues_no q degree w h⟩
  | true =>
    obtain ⟨m, D, rfl, rfl, hs, h1, h2⟩ := dOK_nat h
    exact ⟨_, true, fun w => spec_LeastValues_yes m D w hs h1 h2, fun w => impl_LeastValues_yes m D w hs h1 h2⟩
theorem key_MostValues (q : Int) (degree : Int) : ∃ (r : Int) (o : Bool), (∀ (w : World), Calls Tryz.prog 21 #[.int .i64 q, .int .i64 degree] w fun e w' => e = .returned (.tuple #[.int .i64 r, .bool o]) ∧ Below w.heap.size w w') ∧
      (∀ (w : World), Calls Tryz.prog 20 #[.int .i64 q, .int .i64 degree] w fun e w' => e = .returned (.tuple #[.int .i64 r, .bool o]) ∧ Below w.heap.size w w') := by
  cases h : dOK q degree 1 with
  | false => exact ⟨0, false, fun w => spec_MostValues_no q degree w h, fun w => impl_MostValues_no q degree w h⟩
  | true =>
    obtain ⟨m, D, rfl, rfl, hs, h1, h2⟩ := dOK_nat h
    exact ⟨_, true, fun w => spec_MostValues_yes m D w hs h1 h2, fun w => impl_MostValues_yes m D w hs h1 h2⟩
end Go.Proofs.YtapglncgicfjnabGreat
