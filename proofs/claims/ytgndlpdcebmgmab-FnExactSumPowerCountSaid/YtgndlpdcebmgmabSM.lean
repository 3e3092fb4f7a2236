/- SumPower and SumPowerCount, of both, by contracts; the walks of their laws. -/
import Derived.Test.YtgndlpdcebmgmabNI
import Derived.Test.YtgndlpdcebmgmabRB
import Derived.Deep.RegionHeld3
namespace Go.Proofs.Ytgndlpdcebmgmab
open Go.RowKit
/-- A size and a power of its prime. -/
def spo (q i : Int) : Bool := isSz q && (decide (0 ≤ i) && decide (i ≤ pl q))
theorem pr_even' {m : Nat} (h : isSz (m : Int) = true) : (pr m == 2) = decide (m % 2 = 0) := by
  have hq := isSz_le (m : Int) h
  have : ∀ n : Fin 17, isSz ((n.val : Nat) : Int) = true → (pr ((n.val : Nat) : Int) == 2) = decide (n.val % 2 = 0) := by decide +kernel
  exact this ⟨m, by omega⟩ h
theorem spo_nat {q i : Int} (h : spo q i = true) : ∃ m j : Nat, q = m ∧ i = j ∧ isSz (m : Int) = true ∧ j ≤ plN m := by
  simp only [spo, Bool.and_eq_true, decide_eq_true_iff] at h
  obtain ⟨hs, h0, h1⟩ := h
  have hq := isSz_le q hs
  obtain ⟨m, rfl⟩ := Int.eq_ofNat_of_zero_le (show 0 ≤ q by omega)
  obtain ⟨j, rfl⟩ := Int.eq_ofNat_of_zero_le h0
  exact ⟨m, j, rfl, rfl, hs, by have : pl m = ((plN m : Nat) : Int) := rfl; omega⟩
set_option maxHeartbeats 2000000 in
/-- spec.dfRaised. -/
theorem dfRaised_any (q : Int) (n : Nat) (w : World) (h : isSz q = true) (hn : n ≤ plN q) :
    Calls Try.prog 47 #[.int .i64 (pr q), .int .i64 n] w fun e w' => e = .returned (.int .i64 (ppf q n)) ∧ w = w' := by
  have hk := plN_bd q h
  have hp := pr_bd q h
  have HS := Lib.hid (ppf_succ h)
  have HB := Lib.hid (ppf_bd h)
  have hp1 : ppf q 0 = 1 := by show ((1 : Nat) : Int) = 1; rfl
  generalize hmm : plN q = k at *
  clear hmm h
  generalize pr q = p at *
  go_enter Try.func47, Try.ntmps47
  go_wp2_with fail
  go_loopw [5, 1] (fun vo vk wr => ∃ i : Nat, i ≤ n ∧ vk = .int .i64 ((n : Int) - (i : Int)) ∧ vo = .int .i64 (ppf q i) ∧ wr = w) (fun _ vk _ => (intOf vk).toNat)
  case atStart => exact ⟨0, Nat.zero_le _, by simp, by rw [hp1], rfl⟩
  case round =>
    obtain ⟨i, hi, rfl, rfl, rfl⟩ := hrel
    by_cases hlt : i < n
    · have b1 := HB.out i (by omega)
      have b2 := HB.out (i + 1) (by omega)
      have s1 := HS.out i
      obtain ⟨y, hy⟩ : ∃ y, ppf q (i + 1) = y := ⟨_, rfl⟩
      rw [hy] at s1 b2
      have HY := Lib.hid hy; clear hy
      generalize ppf q i = z at *
      have h1 : IntKind.i64.wrap y = y := IntWalk.i64_in _ (by omega)
      have hpos : (0 : Int) < (n : Int) - (i : Int) := by omega
      have h2 : IntKind.i64.wrap ((n : Int) - (i : Int) - 1) = (n : Int) - (i : Int) - 1 := IntWalk.i64_in _ (by omega)
      go_wp2
      go_roundw
      case rel => exact ⟨i + 1, by omega, congrArg (Value.int .i64) (by omega), by rw [HY.out], by first | rfl | trivial⟩
      case measure => (simp [intOf]; try omega)
    · obtain rfl : n = i := by omega
      have hz : ¬ ((0 : Int) < (n : Int) - (n : Int)) := by omega
      go_wp2
      go_ret
      exact ⟨rfl, rfl⟩
/-- spec.dfPower. -/
theorem dfPower_any (q i : Int) (w : World) :
    Calls Try.prog 44 #[.int .i64 q, .int .i64 i] w fun e w' => e = .returned (.bool (spo q i)) ∧ Below w.heap.size w w' := by
  have HS := Lib.hid (fun w => fdSize_any q w)
  unfold spo
  cases h : isSz q with
  | false =>
    rw [h] at HS
    clear h
    go_enter Try.func44, Try.ntmps44
    go_wp2_with fail
    refine (HS.out _).mono ?_
    rintro e w1 ⟨rfl, hb1⟩
    go_wp2
    go_ret
    exact ⟨rfl, hb1⟩
  | true =>
    rw [h] at HS
    have HP := Lib.hid (fun w => fdPrime_any q w h)
    have HL := Lib.hid (fun w => l1In_any i 0 (pl q) w)
    clear h
    generalize (decide (0 ≤ i) && decide (i ≤ pl q)) = r at *
    go_enter Try.func44, Try.ntmps44
    go_wp2_with fail
    refine (HS.out _).mono ?_
    rintro e w1 ⟨rfl, hb1⟩
    have HB1 := Lib.hid hb1; clear hb1
    go_wp2_with fail
    refine (HP.out _).mono ?_
    rintro e _ ⟨rfl, rfl⟩
    go_wp2_with fail
    refine (HL.out _).mono ?_
    rintro e _ ⟨rfl, rfl⟩
    go_wp2
    go_ret
    exact ⟨rfl, HB1.out⟩
abbrev fzblk : Obj := .cells #[.int .i64 0, .int .i64 0, .int .i64 0] 45
set_option maxRecDepth 100000 in
set_option maxHeartbeats 4000000 in
theorem fieldOfSumPower_yes (m j : Nat) (w : World) (h : isSz (m : Int) = true) (hj : j ≤ plN m) :
    Calls Try.prog 48 #[.int .i64 m, .int .i64 j] w fun e w' => e = .returned (.tuple #[fdE (m : Int), .bool true]) ∧ Below w.heap.size w w' := by
  have HF := Lib.hid (fun w => fieldOf_yes (m : Int) w h)
  have hm : pl m = ((plN m : Nat) : Int) := rfl
  have hle : ¬ (pl m < (j : Int)) := by omega
  clear h hm
  go_enter Try.func48, Try.ntmps48
  go_wp2_with fail
  refine (HF.out _).mono ?_
  rintro e w1 ⟨rfl, hb1⟩
  have h0 := (hb1.block w.heap.size (by simp)).trans (heap_alloc_new w fzblk)
  obtain ⟨r0, r1, r2, rf⟩ := cells3' h0
  have l1 : w.heap.size < w1.heap.size := by have := hb1.size; simp at this; omega
  have HB1 : Hid (Below w.heap.size w w1) := Lib.hid (by (repeat' (first | (with_reducible assumption) | (with_reducible exact Below.refl _ _) | (with_reducible refine below_drewN ?_ _) | (with_reducible refine Below.drew ?_) | (with_reducible refine Below.alloc ?_ ?_ _) | (with_reducible refine Below.setCell ?_ ?_ _) | (with_reducible refine Below.trans ?_ (Below.mono (by assumption) ?_)) | (with_reducible exact Nat.le_refl _) | (with_reducible assumption) | omega | (simp; omega) | (simp; done))))
  clear hb1 h0
  go_wp2_with fail
  refine bodyPost_ret (v := .tuple #[fdE (m : Int), .bool true]) (by simp [results, Try.results48, go_sem, r0, r1, r2, l1]) rfl ⟨rfl, ?_⟩
  have hb1 := HB1.out
  (repeat' (first | (with_reducible assumption) | (with_reducible exact Below.refl _ _) | (with_reducible refine below_drewN ?_ _) | (with_reducible refine Below.drew ?_) | (with_reducible refine Below.alloc ?_ ?_ _) | (with_reducible refine Below.setCell ?_ ?_ _) | (with_reducible refine Below.trans ?_ (Below.mono (by assumption) ?_)) | (with_reducible exact Nat.le_refl _) | (with_reducible assumption) | omega | (simp; omega) | (simp; done)))
set_option maxRecDepth 100000 in
set_option maxHeartbeats 4000000 in
theorem fieldOfSumPower_no1 (q i : Int) (w : World) (h : isSz q = false) :
    Calls Try.prog 48 #[.int .i64 q, .int .i64 i] w fun e w' => e = .returned (.tuple #[.agg #[.int .i64 0, .int .i64 0, .int .i64 0], .bool false]) ∧ Below w.heap.size w w' := by
  have HF := Lib.hid (fun w => fieldOf_no q w h)
  clear h
  go_enter Try.func48, Try.ntmps48
  go_wp2_with fail
  refine (HF.out _).mono ?_
  rintro e w1 ⟨rfl, hb1⟩
  have h0 := (hb1.block w.heap.size (by simp)).trans (heap_alloc_new w fzblk)
  obtain ⟨r0, r1, r2, rf⟩ := cells3' h0
  have l1 : w.heap.size < w1.heap.size := by have := hb1.size; simp at this; omega
  have HB1 : Hid (Below w.heap.size w w1) := Lib.hid (by (repeat' (first | (with_reducible assumption) | (with_reducible exact Below.refl _ _) | (with_reducible refine below_drewN ?_ _) | (with_reducible refine Below.drew ?_) | (with_reducible refine Below.alloc ?_ ?_ _) | (with_reducible refine Below.setCell ?_ ?_ _) | (with_reducible refine Below.trans ?_ (Below.mono (by assumption) ?_)) | (with_reducible exact Nat.le_refl _) | (with_reducible assumption) | omega | (simp; omega) | (simp; done))))
  clear hb1 h0
  go_wp2_with fail
  refine bodyPost_ret (v := .tuple #[.agg #[.int .i64 0, .int .i64 0, .int .i64 0], .bool false]) (by simp [results, Try.results48, go_sem, r0, r1, r2, l1]) rfl ⟨rfl, ?_⟩
  have hb1 := HB1.out
  (repeat' (first | (with_reducible assumption) | (with_reducible exact Below.refl _ _) | (with_reducible refine below_drewN ?_ _) | (with_reducible refine Below.drew ?_) | (with_reducible refine Below.alloc ?_ ?_ _) | (with_reducible refine Below.setCell ?_ ?_ _) | (with_reducible refine Below.trans ?_ (Below.mono (by assumption) ?_)) | (with_reducible exact Nat.le_refl _) | (with_reducible assumption) | omega | (simp; omega) | (simp; done)))
set_option maxRecDepth 100000 in
set_option maxHeartbeats 4000000 in
theorem fieldOfSumPower_no2 (m : Nat) (i : Int) (w : World) (h : isSz (m : Int) = true) (hi : i < 0) :
    Calls Try.prog 48 #[.int .i64 m, .int .i64 i] w fun e w' => e = .returned (.tuple #[.agg #[.int .i64 0, .int .i64 0, .int .i64 0], .bool false]) ∧ Below w.heap.size w w' := by
  have HF := Lib.hid (fun w => fieldOf_yes (m : Int) w h)
  have hneg : i < 0 := hi
  clear h hi
  go_enter Try.func48, Try.ntmps48
  go_wp2_with fail
  refine (HF.out _).mono ?_
  rintro e w1 ⟨rfl, hb1⟩
  have h0 := (hb1.block w.heap.size (by simp)).trans (heap_alloc_new w fzblk)
  obtain ⟨r0, r1, r2, rf⟩ := cells3' h0
  have l1 : w.heap.size < w1.heap.size := by have := hb1.size; simp at this; omega
  have HB1 : Hid (Below w.heap.size w w1) := Lib.hid (by (repeat' (first | (with_reducible assumption) | (with_reducible exact Below.refl _ _) | (with_reducible refine below_drewN ?_ _) | (with_reducible refine Below.drew ?_) | (with_reducible refine Below.alloc ?_ ?_ _) | (with_reducible refine Below.setCell ?_ ?_ _) | (with_reducible refine Below.trans ?_ (Below.mono (by assumption) ?_)) | (with_reducible exact Nat.le_refl _) | (with_reducible assumption) | omega | (simp; omega) | (simp; done))))
  clear hb1 h0
  go_wp2_with fail
  refine bodyPost_ret (v := .tuple #[.agg #[.int .i64 0, .int .i64 0, .int .i64 0], .bool false]) (by simp [results, Try.results48, go_sem, r0, r1, r2, l1]) rfl ⟨rfl, ?_⟩
  have hb1 := HB1.out
  (repeat' (first | (with_reducible assumption) | (with_reducible exact Below.refl _ _) | (with_reducible refine below_drewN ?_ _) | (with_reducible refine Below.drew ?_) | (with_reducible refine Below.alloc ?_ ?_ _) | (with_reducible refine Below.setCell ?_ ?_ _) | (with_reducible refine Below.trans ?_ (Below.mono (by assumption) ?_)) | (with_reducible exact Nat.le_refl _) | (with_reducible assumption) | omega | (simp; omega) | (simp; done)))
set_option maxRecDepth 100000 in
set_option maxHeartbeats 4000000 in
theorem fieldOfSumPower_no3 (m : Nat) (i : Int) (w : World) (h : isSz (m : Int) = true) (h0 : 0 ≤ i) (hi : pl m < i) :
    Calls Try.prog 48 #[.int .i64 m, .int .i64 i] w fun e w' => e = .returned (.tuple #[.agg #[.int .i64 0, .int .i64 0, .int .i64 0], .bool false]) ∧ Below w.heap.size w w' := by
  have HF := Lib.hid (fun w => fieldOf_yes (m : Int) w h)
  have hneg : ¬ i < 0 := by omega
  have hgt : pl m < i := hi
  clear h hi
  go_enter Try.func48, Try.ntmps48
  go_wp2_with fail
  refine (HF.out _).mono ?_
  rintro e w1 ⟨rfl, hb1⟩
  have h0 := (hb1.block w.heap.size (by simp)).trans (heap_alloc_new w fzblk)
  obtain ⟨r0, r1, r2, rf⟩ := cells3' h0
  have l1 : w.heap.size < w1.heap.size := by have := hb1.size; simp at this; omega
  have HB1 : Hid (Below w.heap.size w w1) := Lib.hid (by (repeat' (first | (with_reducible assumption) | (with_reducible exact Below.refl _ _) | (with_reducible refine below_drewN ?_ _) | (with_reducible refine Below.drew ?_) | (with_reducible refine Below.alloc ?_ ?_ _) | (with_reducible refine Below.setCell ?_ ?_ _) | (with_reducible refine Below.trans ?_ (Below.mono (by assumption) ?_)) | (with_reducible exact Nat.le_refl _) | (with_reducible assumption) | omega | (simp; omega) | (simp; done))))
  clear hb1 h0
  go_wp2_with fail
  refine bodyPost_ret (v := .tuple #[.agg #[.int .i64 0, .int .i64 0, .int .i64 0], .bool false]) (by simp [results, Try.results48, go_sem, r0, r1, r2, l1]) rfl ⟨rfl, ?_⟩
  have hb1 := HB1.out
  (repeat' (first | (with_reducible assumption) | (with_reducible exact Below.refl _ _) | (with_reducible refine below_drewN ?_ _) | (with_reducible refine Below.drew ?_) | (with_reducible refine Below.alloc ?_ ?_ _) | (with_reducible refine Below.setCell ?_ ?_ _) | (with_reducible refine Below.trans ?_ (Below.mono (by assumption) ?_)) | (with_reducible exact Nat.le_refl _) | (with_reducible assumption) | omega | (simp; omega) | (simp; done)))
theorem fieldOfSumPower_no (q i : Int) (w : World) (h : spo q i = false) :
    Calls Try.prog 48 #[.int .i64 q, .int .i64 i] w fun e w' => e = .returned (.tuple #[.agg #[.int .i64 0, .int .i64 0, .int .i64 0], .bool false]) ∧ Below w.heap.size w w' := by
  cases hs : isSz q with
  | false => exact fieldOfSumPower_no1 q i w hs
  | true =>
    have hq := isSz_le q hs
    obtain ⟨m, rfl⟩ := Int.eq_ofNat_of_zero_le (show 0 ≤ q by omega)
    by_cases h0 : 0 ≤ i
    · by_cases h1 : i ≤ pl m
      · simp [spo, hs, h0, h1] at h
      · exact fieldOfSumPower_no3 m i w hs h0 (by omega)
    · exact fieldOfSumPower_no2 m i w hs (by omega)
theorem spec_SumPower_no (q i : Int) (w : World) (h : spo q i = false) :
    Calls Try.prog 15 #[.int .i64 q, .int .i64 i] w fun e w' => e = .returned (.tuple #[.slice none 0 0, .bool false]) ∧ Below w.heap.size w w' := by
  have hp := dfPower_any q i w
  rw [h] at hp
  have HP := Lib.hid hp
  clear hp h
  go_enter Try.func15, Try.ntmps15
  go_wp2_with fail
  refine HP.out.mono ?_
  rintro e w1 ⟨rfl, hb1⟩
  have hz_hb1 := hb1.size; (try simp at hz_hb1)
  have HB1 := Lib.hid hb1; clear hb1
  go_wp2_with fail
  go_ret2
  have hb1 := HB1.out
  exact ⟨rfl, by (repeat' (first | (with_reducible assumption) | (with_reducible exact Below.refl _ _) | (with_reducible refine below_drewN ?_ _) | (with_reducible refine Below.drew ?_) | (with_reducible refine Below.alloc ?_ ?_ _) | (with_reducible refine Below.setCell ?_ ?_ _) | (with_reducible refine Below.trans ?_ (Below.mono (by assumption) ?_)) | (with_reducible exact Nat.le_refl _) | (with_reducible assumption) | omega | (simp; omega) | (simp; done)))⟩
theorem impl_SumPower_no (q i : Int) (w : World) (h : spo q i = false) :
    Calls Try.prog 16 #[.int .i64 q, .int .i64 i] w fun e w' => e = .returned (.tuple #[.slice none 0 0, .bool false]) ∧ Below w.heap.size w w' := by
  have HP := Lib.hid (fieldOfSumPower_no q i w h)
  clear h
  go_enter Try.func16, Try.ntmps16
  go_wp2_with fail
  refine HP.out.mono ?_
  rintro e w1 ⟨rfl, hb1⟩
  have hz_hb1 := hb1.size; (try simp at hz_hb1)
  have HB1 := Lib.hid hb1; clear hb1
  go_wp2_with fail
  go_ret2
  have hb1 := HB1.out
  exact ⟨rfl, by (repeat' (first | (with_reducible assumption) | (with_reducible exact Below.refl _ _) | (with_reducible refine below_drewN ?_ _) | (with_reducible refine Below.drew ?_) | (with_reducible refine Below.alloc ?_ ?_ _) | (with_reducible refine Below.setCell ?_ ?_ _) | (with_reducible refine Below.trans ?_ (Below.mono (by assumption) ?_)) | (with_reducible exact Nat.le_refl _) | (with_reducible assumption) | omega | (simp; omega) | (simp; done)))⟩
theorem spec_SumPowerCount_no (q i : Int) (w : World) (h : spo q i = false) :
    Calls Try.prog 20 #[.int .i64 q, .int .i64 i] w fun e w' => e = .returned (.tuple #[.int .i64 0, .bool false]) ∧ Below w.heap.size w w' := by
  have hp := dfPower_any q i w
  rw [h] at hp
  have HP := Lib.hid hp
  clear hp h
  go_enter Try.func20, Try.ntmps20
  go_wp2_with fail
  refine HP.out.mono ?_
  rintro e w1 ⟨rfl, hb1⟩
  have hz_hb1 := hb1.size; (try simp at hz_hb1)
  have HB1 := Lib.hid hb1; clear hb1
  go_wp2_with fail
  go_ret2
  have hb1 := HB1.out
  exact ⟨rfl, by (repeat' (first | (with_reducible assumption) | (with_reducible exact Below.refl _ _) | (with_reducible refine below_drewN ?_ _) | (with_reducible refine Below.drew ?_) | (with_reducible refine Below.alloc ?_ ?_ _) | (with_reducible refine Below.setCell ?_ ?_ _) | (with_reducible refine Below.trans ?_ (Below.mono (by assumption) ?_)) | (with_reducible exact Nat.le_refl _) | (with_reducible assumption) | omega | (simp; omega) | (simp; done)))⟩
theorem impl_SumPowerCount_no (q i : Int) (w : World) (h : spo q i = false) :
    Calls Try.prog 21 #[.int .i64 q, .int .i64 i] w fun e w' => e = .returned (.tuple #[.int .i64 0, .bool false]) ∧ Below w.heap.size w w' := by
  have HP := Lib.hid (fieldOfSumPower_no q i w h)
  clear h
  go_enter Try.func21, Try.ntmps21
  go_wp2_with fail
  refine HP.out.mono ?_
  rintro e w1 ⟨rfl, hb1⟩
  have hz_hb1 := hb1.size; (try simp at hz_hb1)
  have HB1 := Lib.hid hb1; clear hb1
  go_wp2_with fail
  go_ret2
  have hb1 := HB1.out
  exact ⟨rfl, by (repeat' (first | (with_reducible assumption) | (with_reducible exact Below.refl _ _) | (with_reducible refine below_drewN ?_ _) | (with_reducible refine Below.drew ?_) | (with_reducible refine Below.alloc ?_ ?_ _) | (with_reducible refine Below.setCell ?_ ?_ _) | (with_reducible refine Below.trans ?_ (Below.mono (by assumption) ?_)) | (with_reducible exact Nat.le_refl _) | (with_reducible assumption) | omega | (simp; omega) | (simp; done)))⟩
set_option maxRecDepth 100000 in
set_option maxHeartbeats 4000000 in
theorem spec_SumPower_yes (m j : Nat) (w : World) (h : isSz (m : Int) = true) (hj : j ≤ plN m) :
    Calls Try.prog 15 #[.int .i64 m, .int .i64 j] w fun e w' => ∃ v', e = .returned (.tuple #[v', .bool true]) ∧ Row w' w.heap.size v' (ptl m (fun a => pw m (a : Int) (pp m j + 1))) ∧ Below w.heap.size w w' := by
  have hq := isSz_le (m : Int) h
  have hkb := plN_bd (m : Int) h
  have hpb := ppf_bd h j hj
  have hsp : spo (m : Int) (j : Int) = true := by simp [spo, h]; have : pl m = ((plN m : Nat) : Int) := rfl; omega
  have hp := dfPower_any (m : Int) (j : Int) w
  rw [hsp] at hp
  have HP := Lib.hid hp
  have HPR := Lib.hid (fun w => fdPrime_any (m : Int) w h)
  have HRA := Lib.hid (fun w => dfRaised_any (m : Int) j w h hj)
  rw [show ppf (m : Int) j = ((pp m j : Nat) : Int) from rfl] at HRA hpb
  have HK : Hid (∀ w, Calls Try.prog 46 #[.int .i64 m, .int .i64 ((pp m j : Nat) + 1 : Int)] w fun e w' => ∃ v, e = .returned v ∧ Row w' w.heap.size v (ptl m (fun a => pw m (a : Int) (pp m j + 1))) ∧ Below w.heap.size w w') := Lib.hid fun w =>
    (kdPower_any m (pp m j + 1) w h (by omega)).mono fun _ _ ⟨v, h1, h2, h3⟩ => ⟨v, h1, h2.row h, h3⟩
  clear hp h hsp hj
  generalize ptl m (fun a => pw m (a : Int) (pp m j + 1)) = r at *
  generalize pp (m : Int) j = P at *
  have hw1 : IntKind.i64.wrap ((P : Int) + 1) = (P : Int) + 1 := IntWalk.i64_in _ (by omega)
  go_enter Try.func15, Try.ntmps15
  go_wp2_with fail
  refine HP.out.mono ?_
  rintro e w1 ⟨rfl, hb1⟩
  have HB1 := Lib.hid hb1; clear hb1
  go_wp2_with fail
  refine (HPR.out _).mono ?_
  rintro e _ ⟨rfl, rfl⟩
  go_wp2_with fail
  refine (HRA.out _).mono ?_
  rintro e _ ⟨rfl, rfl⟩
  go_wp2_with fail
  refine (HK.out _).mono ?_
  rintro e w2 ⟨v2, rfl, hr2, hb2⟩
  have HR2 := Lib.hid (hr2.mono HB1.out.size)
  have HB2 : Hid (Below w.heap.size w w2) := Lib.hid (HB1.out.trans (hb2.mono HB1.out.size)); clear hb2 hr2
  go_wp2
  go_ret2
  exact ⟨_, rfl, HR2.out, HB2.out⟩
set_option maxRecDepth 100000 in
set_option maxHeartbeats 4000000 in
theorem impl_SumPower_yes (m j : Nat) (w : World) (h : isSz (m : Int) = true) (hj : j ≤ plN m) :
    Calls Try.prog 16 #[.int .i64 m, .int .i64 j] w fun e w' => ∃ v', e = .returned (.tuple #[v', .bool true]) ∧ Row w' w.heap.size v' (ptl m (fun a => pw m (a : Int) (pp m j + 1))) ∧ Below w.heap.size w w' := by
  have hq := isSz_le (m : Int) h
  have hpb := ppf_bd h j hj
  have HP := Lib.hid (fieldOfSumPower_yes m j w h hj)
  have HRA := Lib.hid (fun w => primePowerE (m : Int) j w h hj)
  rw [show ppf (m : Int) j = ((pp m j : Nat) : Int) from rfl] at HRA hpb
  have HX : Hid (∀ w, Calls Try.prog 49 #[fdE (m : Int), .int .i64 ((pp m j : Nat) + 1 : Int)] w fun e w' => ∃ v, e = .returned (polyE (m : Int) v) ∧ IsP w' v m (fun a => pw m (a : Int) (pp m j + 1)) ∧ Below w.heap.size w w') := Lib.hid fun w => powerOfXE m (pp m j + 1) w h (by omega)
  have HU := Lib.hid (fun v' w' (hp : IsP w' v' m (fun a => pw m (a : Int) (pp m j + 1))) => numbersT m v' (fun a => pw m (a : Int) (pp m j + 1)) w' h hp)
  clear h hj
  generalize ptl m (fun a => pw m (a : Int) (pp m j + 1)) = r at *
  generalize (fun a : Nat => pw m (a : Int) (pp m j + 1)) = t at *
  generalize pp (m : Int) j = P at *
  have hw1 : IntKind.i64.wrap ((P : Int) + 1) = (P : Int) + 1 := IntWalk.i64_in _ (by omega)
  go_enter Try.func16, Try.ntmps16
  go_wp2_with fail
  refine HP.out.mono ?_
  rintro e w1 ⟨rfl, hb1⟩
  have HB1 := Lib.hid hb1; clear hb1
  go_wp2_with fail
  have HKEEP : Hid (∀ w', Below (w1.heap.size + 1) (w1.alloc (ffblk (m : Int))) w' → w'.cell? ⟨w1.heap.size, 0, none⟩ = some (.int .i64 m) ∧ w'.cell? ⟨w1.heap.size, 1, none⟩ = some (.int .i64 (pr m)) ∧ w'.cell? ⟨w1.heap.size, 2, none⟩ = some (.int .i64 (pl m))) := Lib.hid fun w' hb => by
    obtain ⟨x0, x1, x2, _⟩ := cells3' ((hb.block _ (by omega)).trans (heap_alloc_new w1 (ffblk (m : Int))))
    exact ⟨x0, x1, x2⟩
  go_region_held3 (fun w' => w'.cell? ⟨w1.heap.size, 0, none⟩ = some (.int .i64 m) ∧ w'.cell? ⟨w1.heap.size, 1, none⟩ = some (.int .i64 (pr m)) ∧ w'.cell? ⟨w1.heap.size, 2, none⟩ = some (.int .i64 (pl m)))
    (exact HKEEP.out _ (by (try have hb3 := HB3.out); (try have hb4 := HB4.out); (try have hb5 := HB5.out); (repeat' (first | (with_reducible assumption) | (with_reducible exact Below.refl _ _) | (with_reducible refine below_drewN ?_ _) | (with_reducible refine Below.drew ?_) | (with_reducible refine Below.alloc ?_ ?_ _) | (with_reducible refine Below.setCell ?_ ?_ _) | (with_reducible refine Below.trans ?_ (Below.mono (by assumption) ?_)) | (with_reducible exact Nat.le_refl _) | (with_reducible assumption) | omega | (simp; omega) | (simp; done)))))
    (first
    | (go_at_call 50; refine (HRA.out _).mono ?_; rintro e w3 ⟨rfl, hb3⟩; obtain ⟨hc3, hf3⟩ := bcell hb3; (try simp only [World.size_drew] at hc3 hf3); have hz3 := hb3.size; (try simp at hz3); have HB3 := Lib.hid hb3; clear hb3)
    | (go_at_call 49; refine (HX.out _).mono ?_; rintro e w4 ⟨v4, rfl, hp4, hb4⟩; have HP4 := Lib.hid hp4; clear hp4; obtain ⟨hc4, hf4⟩ := bcell hb4; (try simp only [World.size_drew] at hc4 hf4); have hz4 := hb4.size; (try simp at hz4); have HB4 := Lib.hid hb4; clear hb4)
    | (go_at_call 51; refine (HU.out _ _ HP4.out).mono ?_; rintro e w5 ⟨v5, rfl, hr5, hb5⟩; have HR5 := Lib.hid hr5; clear hr5; obtain ⟨hc5, hf5⟩ := bcell hb5; (try simp only [World.size_drew] at hc5 hf5); have hz5 := hb5.size; (try simp at hz5); have HB5 := Lib.hid hb5; clear hb5))
  all_goals
    go_wp2
    go_ret2
    have hb1 := HB1.out
    have hz1 := hb1.size
    have hb3 := HB3.out
    have hb4 := HB4.out
    have hb5 := HB5.out
    exact ⟨_, rfl, HR5.out.mono (by first | omega | (simp; done) | (simp; omega)), by (repeat' (first | (with_reducible assumption) | (with_reducible exact Below.refl _ _) | (with_reducible refine below_drewN ?_ _) | (with_reducible refine Below.drew ?_) | (with_reducible refine Below.alloc ?_ ?_ _) | (with_reducible refine Below.setCell ?_ ?_ _) | (with_reducible refine Below.trans ?_ (Below.mono (by assumption) ?_)) | (with_reducible exact Nat.le_refl _) | (with_reducible assumption) | omega | (simp; omega) | (simp; done)))⟩
theorem key_SumPower (q : Int) (i : Int) : ∃ (r : List Int) (o : Bool), r.length ≤ 1048576 ∧ (∀ (w : World), Calls Try.prog 15 #[.int .i64 q, .int .i64 i] w fun e w' => ∃ v, e = .returned (.tuple #[v, .bool o]) ∧ Row w' w.heap.size v r ∧ Below w.heap.size w w') ∧
      (∀ (w : World), Calls Try.prog 16 #[.int .i64 q, .int .i64 i] w fun e w' => ∃ v, e = .returned (.tuple #[v, .bool o]) ∧ Row w' w.heap.size v r ∧ Below w.heap.size w w') := by
  cases h : spo q i with
  | false => exact ⟨[], false, by simp, fun w => (spec_SumPower_no q i w h).mono fun _ _ ⟨he, hb⟩ => ⟨_, he, Row.nil _ _, hb⟩, fun w => (impl_SumPower_no q i w h).mono fun _ _ ⟨he, hb⟩ => ⟨_, he, Row.nil _ _, hb⟩⟩
  | true =>
    obtain ⟨m, j, rfl, rfl, hs, hj⟩ := spo_nat h
    have hq := isSz_le (m : Int) hs
    exact ⟨_, true, by unfold ptl; rw [fl_len]; have := sn_le (ipl m (fun a => pw m (a : Int) (pp m j + 1)) m) m; omega, fun w => spec_SumPower_yes m j w hs hj, fun w => impl_SumPower_yes m j w hs hj⟩
set_option maxRecDepth 100000 in
set_option maxHeartbeats 4000000 in
/-- laws.FnExactSumPower. -/
theorem walk_FnExactSumPower (q : Int) (i : Int) (w : World) (_h_q : (Lit.int .i64 q).wf = true) (_h_i : (Lit.int .i64 i).wf = true) :
    Calls Try.prog 4 #[.int .i64 q, .int .i64 i] w fun e w' => e = .returned (.bool true) ∧ Below w.heap.size w w' := by
  clear _h_q
  clear _h_i
  obtain ⟨r, o, hr, k1, k2⟩ := key_SumPower q i
  have K1 := Lib.hid k1; clear k1
  have K2 := Lib.hid k2; clear k2
  have HB0 : Hid (Below w.heap.size w w) := Lib.hid (Below.refl _ _)
  go_enter Try.func4, Try.ntmps4
  go_wp2_with fail
  refine (K1.out _ ).mono ?_
  rintro e w1 ⟨v_sp, rfl, hrw1, hbw1⟩
  have hzw1 : w.heap.size ≤ w1.heap.size := hbw1.size
  have HBw1 : Hid (Below w.heap.size w w1) := Lib.hid (HB0.out.trans (hbw1.mono HB0.out.size))
  have hww1 := HBw1.out.size
  clear hbw1 HB0
  have R_sp_w1 := Lib.hid hrw1; clear hrw1
  have lt_sp : Hid (∀ g, v_sp.ownBlock = some g → w.heap.size ≤ g ∧ g < w1.heap.size) := Lib.hid R_sp_w1.out.lt
  go_wp2_with fail
  refine (K2.out _ ).mono ?_
  rintro e w2 ⟨v_im, rfl, hrw2, hbw2⟩
  have hzw2 : w1.heap.size ≤ w2.heap.size := hbw2.size
  have R_sp_w2 := Lib.hid (R_sp_w1.out.below hbw2)
  clear R_sp_w1
  have HBw2 : Hid (Below w.heap.size w w2) := Lib.hid (HBw1.out.trans (hbw2.mono HBw1.out.size))
  have hww2 := HBw2.out.size
  clear hbw2 HBw1
  have R_im_w2 := Lib.hid hrw2; clear hrw2
  have lt_im : Hid (∀ g, v_im.ownBlock = some g → w1.heap.size ≤ g ∧ g < w2.heap.size) := Lib.hid R_im_w2.out.lt
  go_wp2_with fail
  refine (eq_same v_im v_sp r _ _ _ R_im_w2.out R_sp_w2.out (by omega)).mono ?_
  rintro e w3 ⟨rfl, hbw3⟩
  have hzw3 : w2.heap.size ≤ w3.heap.size := hbw3.size
  have R_sp_w3 := Lib.hid (R_sp_w2.out.below hbw3)
  clear R_sp_w2
  have R_im_w3 := Lib.hid (R_im_w2.out.below hbw3)
  clear R_im_w2
  have HBw3 : Hid (Below w.heap.size w w3) := Lib.hid (HBw2.out.trans (hbw3.mono HBw2.out.size))
  have hww3 := HBw3.out.size
  clear hbw3 HBw2
  go_wp2_with fail
  refine (mark_any v_im r _ (1) _ R_im_w3.out (by omega) (by omega) (by omega)).mono ?_
  rintro e w4 ⟨rfl, hrw4, hgw4⟩
  have hzw4 : w3.heap.size ≤ w4.heap.size := hgw4.size
  have R_sp_w4 := Lib.hid (R_sp_w3.out.keep (w' := w4) fun g hg => hgw4.block g (R_sp_w3.out.lt g hg).2 fun e => by have h1 := lt_sp.out g hg; have h2 := lt_im.out g e.symm; omega)
  clear R_sp_w3
  have HBw4 : Hid (Below w.heap.size w w4) := Lib.hid (Below.grown HBw3.out hgw4 (by omega) (fun g e => by have h2 := lt_im.out g e; omega))
  have hww4 := HBw4.out.size
  have R_im_w4 := Lib.hid hrw4
  clear hrw4 hgw4 HBw3 R_im_w3
  go_wp2_with fail
  refine (held_any v_im r.length _ (1) _ R_im_w4.out (by omega) (by omega) (by omega)).mono ?_
  rintro e wx1 ⟨rfl, rfl⟩
  go_wp2_with fail
  refine (K2.out _ ).mono ?_
  rintro e w5 ⟨v_im2, rfl, hrw5, hbw5⟩
  have hzw5 : w4.heap.size ≤ w5.heap.size := hbw5.size
  have R_sp_w5 := Lib.hid (R_sp_w4.out.below hbw5)
  clear R_sp_w4
  have R_im_w5 := Lib.hid (R_im_w4.out.below hbw5)
  clear R_im_w4
  have HBw5 : Hid (Below w.heap.size w w5) := Lib.hid (HBw4.out.trans (hbw5.mono HBw4.out.size))
  have hww5 := HBw5.out.size
  clear hbw5 HBw4
  have R_im2_w5 := Lib.hid hrw5; clear hrw5
  have lt_im2 : Hid (∀ g, v_im2.ownBlock = some g → w4.heap.size ≤ g ∧ g < w5.heap.size) := Lib.hid R_im2_w5.out.lt
  go_wp2_with fail
  refine (eq_same v_im2 v_sp r _ _ _ R_im2_w5.out R_sp_w5.out (by omega)).mono ?_
  rintro e w6 ⟨rfl, hbw6⟩
  have hzw6 : w5.heap.size ≤ w6.heap.size := hbw6.size
  have R_sp_w6 := Lib.hid (R_sp_w5.out.below hbw6)
  clear R_sp_w5
  have R_im_w6 := Lib.hid (R_im_w5.out.below hbw6)
  clear R_im_w5
  have R_im2_w6 := Lib.hid (R_im2_w5.out.below hbw6)
  clear R_im2_w5
  have HBw6 : Hid (Below w.heap.size w w6) := Lib.hid (HBw5.out.trans (hbw6.mono HBw5.out.size))
  have hww6 := HBw6.out.size
  clear hbw6 HBw5
  go_wp2_with fail
  refine (held_any v_im r.length _ (1) _ R_im_w6.out (by omega) (by omega) (by omega)).mono ?_
  rintro e wx2 ⟨rfl, rfl⟩
  go_wp2
  go_ret
  exact ⟨rfl, HBw6.out⟩
/-- The greatest count, by the formula. -/
def spc (m j : Nat) : Int := if m % 2 = 1 ∧ (plN m / Nat.gcd j (plN m)) % 2 = 1 then 1 else ppf m (Nat.gcd j (plN m))
set_option maxRecDepth 100000 in
set_option maxHeartbeats 4000000 in
/-- impl.field.sumPowerCount. -/
theorem sumPowerCountE (m j : Nat) (w : World) (h : isSz (m : Int) = true) (hj : j ≤ plN m) :
    Calls Try.prog 53 #[fdE (m : Int), .int .i64 j] w fun e w' => e = .returned (.int .i64 (spc m j)) ∧ Below w.heap.size w w' := by
  have hk1 : 1 ≤ plN (m : Int) := (plN_bd (m : Int) h).1
  have hk4 : plN (m : Int) ≤ 4 := (plN_bd (m : Int) h).2
  have hgk : Nat.gcd j (plN m) ≤ plN m := Nat.le_of_dvd (by omega) (Nat.gcd_dvd_right _ _)
  have hg1 : 1 ≤ Nat.gcd j (plN m) := Nat.gcd_pos_of_pos_right _ (by omega)
  have hpe := pr_even' h
  have HC : Hid (∀ w, Calls Try.prog 88 #[.int .i64 j, .int .i64 (pl m)] w fun e w' => e = .returned (.int .i64 (Nat.gcd j (plN m))) ∧ Below w.heap.size w w') := Lib.hid fun w => commonE j (plN m) w (by omega) (by omega)
  have HPP := Lib.hid (fun w => primePowerE (m : Int) (Nat.gcd j (plN m)) w h hgk)
  have HF : Hid ((w.alloc (ffblk (m : Int))).heap[w.heap.size]? = some (ffblk (m : Int))) := Lib.hid (heap_alloc_new w _)
  unfold spc
  clear h hj
  have hquo : (pl (m : Int)).tdiv ((Nat.gcd j (plN m) : Nat) : Int) = ((plN m / Nat.gcd j (plN m) : Nat) : Int) := rfl
  have hqle : plN m / Nat.gcd j (plN m) ≤ 4 := Nat.le_trans (Nat.div_le_self _ _) hk4
  generalize plN m / Nat.gcd j (plN m) = d at *
  generalize Nat.gcd j (plN m) = g at *
  have hg0 : ¬ g = 0 := by omega
  have hg0' : ¬ (g : Int) = 0 := by omega
  have hwd : IntKind.i64.wrap (d : Int) = (d : Int) := IntWalk.i64_in _ (by omega)
  clear hgk hk1 hk4
  by_cases ho : m % 2 = 1
  · rw [decide_eq_false (show ¬ m % 2 = 0 by omega)] at hpe
    have hpe' : (pr m != 2) = true := by simp [bne, hpe]
    by_cases hd : d % 2 = 1
    · rw [if_pos ⟨ho, hd⟩]
      have hd1 : ((d : Int) % 2 == 1) = true := by simp; omega
      have hd2 : (d : Int) % 2 = 1 := by omega
      clear ho hd
      go_enter Try.func53, Try.ntmps53
      go_wp2_with fail
      refine (HC.out _).mono ?_
      rintro e w1 ⟨rfl, hb1⟩
      have h1 := (hb1.block _ (by simp)).trans HF.out
      obtain ⟨x0, x1, x2, xf⟩ := cells3' h1
      have l1 : w.heap.size < w1.heap.size := by have := hb1.size; simp at this; omega
      have HB1 : Hid (Below w.heap.size w w1) := Lib.hid (by (repeat' (first | (with_reducible assumption) | (with_reducible exact Below.refl _ _) | (with_reducible refine below_drewN ?_ _) | (with_reducible refine Below.drew ?_) | (with_reducible refine Below.alloc ?_ ?_ _) | (with_reducible refine Below.setCell ?_ ?_ _) | (with_reducible refine Below.trans ?_ (Below.mono (by assumption) ?_)) | (with_reducible exact Nat.le_refl _) | (with_reducible assumption) | omega | (simp; omega) | (simp; done))))
      clear hb1 h1
      go_wp2
      go_ret
      have hb1 := HB1.out
      exact ⟨rfl, by (repeat' (first | (with_reducible assumption) | (with_reducible exact Below.refl _ _) | (with_reducible refine below_drewN ?_ _) | (with_reducible refine Below.drew ?_) | (with_reducible refine Below.alloc ?_ ?_ _) | (with_reducible refine Below.setCell ?_ ?_ _) | (with_reducible refine Below.trans ?_ (Below.mono (by assumption) ?_)) | (with_reducible exact Nat.le_refl _) | (with_reducible assumption) | omega | (simp; omega) | (simp; done)))⟩
    · rw [if_neg fun hh => hd hh.2]
      have hd1 : ((d : Int) % 2 == 1) = false := by simp; omega
      have hd2 : ¬ (d : Int) % 2 = 1 := by omega
      clear ho hd
      go_enter Try.func53, Try.ntmps53
      go_wp2_with fail
      refine (HC.out _).mono ?_
      rintro e w1 ⟨rfl, hb1⟩
      have h1 := (hb1.block _ (by simp)).trans HF.out
      obtain ⟨x0, x1, x2, xf⟩ := cells3' h1
      have l1 : w.heap.size < w1.heap.size := by have := hb1.size; simp at this; omega
      have HB1 : Hid (Below w.heap.size w w1) := Lib.hid (by (repeat' (first | (with_reducible assumption) | (with_reducible exact Below.refl _ _) | (with_reducible refine below_drewN ?_ _) | (with_reducible refine Below.drew ?_) | (with_reducible refine Below.alloc ?_ ?_ _) | (with_reducible refine Below.setCell ?_ ?_ _) | (with_reducible refine Below.trans ?_ (Below.mono (by assumption) ?_)) | (with_reducible exact Nat.le_refl _) | (with_reducible assumption) | omega | (simp; omega) | (simp; done))))
      clear hb1 h1
      go_wp2_with fail
      refine (HPP.out _).mono ?_
      rintro e w2 ⟨rfl, hb2⟩
      have HB2 : Hid (Below w.heap.size w w2) := Lib.hid (by have hb1 := HB1.out; (repeat' (first | (with_reducible assumption) | (with_reducible exact Below.refl _ _) | (with_reducible refine below_drewN ?_ _) | (with_reducible refine Below.drew ?_) | (with_reducible refine Below.alloc ?_ ?_ _) | (with_reducible refine Below.setCell ?_ ?_ _) | (with_reducible refine Below.trans ?_ (Below.mono (by assumption) ?_)) | (with_reducible exact Nat.le_refl _) | (with_reducible assumption) | omega | (simp; omega) | (simp; done))))
      clear hb2
      go_wp2
      go_ret
      exact ⟨rfl, HB2.out⟩
  · rw [if_neg fun hh => ho hh.1]
    rw [decide_eq_true (show m % 2 = 0 by omega)] at hpe
    have hpe' : (pr m != 2) = false := by simp [bne, hpe]
    clear ho
    go_enter Try.func53, Try.ntmps53
    go_wp2_with fail
    refine (HC.out _).mono ?_
    rintro e w1 ⟨rfl, hb1⟩
    have h1 := (hb1.block _ (by simp)).trans HF.out
    obtain ⟨x0, x1, x2, xf⟩ := cells3' h1
    have l1 : w.heap.size < w1.heap.size := by have := hb1.size; simp at this; omega
    have HB1 : Hid (Below w.heap.size w w1) := Lib.hid (by (repeat' (first | (with_reducible assumption) | (with_reducible exact Below.refl _ _) | (with_reducible refine below_drewN ?_ _) | (with_reducible refine Below.drew ?_) | (with_reducible refine Below.alloc ?_ ?_ _) | (with_reducible refine Below.setCell ?_ ?_ _) | (with_reducible refine Below.trans ?_ (Below.mono (by assumption) ?_)) | (with_reducible exact Nat.le_refl _) | (with_reducible assumption) | omega | (simp; omega) | (simp; done))))
    clear hb1 h1
    go_wp2_with fail
    refine (HPP.out _).mono ?_
    rintro e w2 ⟨rfl, hb2⟩
    have HB2 : Hid (Below w.heap.size w w2) := Lib.hid (by have hb1 := HB1.out; (repeat' (first | (with_reducible assumption) | (with_reducible exact Below.refl _ _) | (with_reducible refine below_drewN ?_ _) | (with_reducible refine Below.drew ?_) | (with_reducible refine Below.alloc ?_ ?_ _) | (with_reducible refine Below.setCell ?_ ?_ _) | (with_reducible refine Below.trans ?_ (Below.mono (by assumption) ?_)) | (with_reducible exact Nat.le_refl _) | (with_reducible assumption) | omega | (simp; omega) | (simp; done))))
    clear hb2
    go_wp2
    go_ret
    exact ⟨rfl, HB2.out⟩
set_option maxRecDepth 100000 in
set_option maxHeartbeats 4000000 in
theorem spec_SumPowerCount_yes (m j : Nat) (w : World) (h : isSz (m : Int) = true) (hj : j ≤ plN m) :
    Calls Try.prog 20 #[.int .i64 m, .int .i64 j] w fun e w' => e = .returned (.tuple #[.int .i64 (spc m j), .bool true]) ∧ Below w.heap.size w w' := by
  have hq := isSz_le (m : Int) h
  have hkb := plN_bd (m : Int) h
  have hpb := ppf_bd h j hj
  have hsp : spo (m : Int) (j : Int) = true := by simp [spo, h]; have : pl m = ((plN m : Nat) : Int) := rfl; omega
  have hp := dfPower_any (m : Int) (j : Int) w
  rw [hsp] at hp
  have HP := Lib.hid hp
  have HPR := Lib.hid (fun w => fdPrime_any (m : Int) w h)
  have hk1 : 1 ≤ plN (m : Int) := (plN_bd (m : Int) h).1
  have hk4 : plN (m : Int) ≤ 4 := (plN_bd (m : Int) h).2
  have hgk : Nat.gcd j (plN m) ≤ plN m := Nat.le_of_dvd (by omega) (Nat.gcd_dvd_right _ _)
  have hg1 : 1 ≤ Nat.gcd j (plN m) := Nat.gcd_pos_of_pos_right _ (by omega)
  have hpe := pr_even' h
  have HC : Hid (∀ w, Calls Try.prog 52 #[.int .i64 (pl m), .int .i64 j] w fun e w' => e = .returned (.int .i64 (Nat.gcd j (plN m))) ∧ Below w.heap.size w w') := Lib.hid fun w => by
    have := peGcd_any j (plN m) w (by omega) (by omega)
    rw [Nat.gcd_comm] at this
    exact this
  have HPP := Lib.hid (fun w => dfRaised_any (m : Int) (Nat.gcd j (plN m)) w h hgk)
  unfold spc
  clear hp h hj hsp hkb hpb hpe
  have hquo : (pl (m : Int)).tdiv ((Nat.gcd j (plN m) : Nat) : Int) = ((plN m / Nat.gcd j (plN m) : Nat) : Int) := rfl
  have hqle : plN m / Nat.gcd j (plN m) ≤ 4 := Nat.le_trans (Nat.div_le_self _ _) hk4
  generalize plN m / Nat.gcd j (plN m) = d at *
  generalize Nat.gcd j (plN m) = g at *
  have hg0 : ¬ g = 0 := by omega
  have hg0' : ¬ (g : Int) = 0 := by omega
  have hwd : IntKind.i64.wrap (d : Int) = (d : Int) := IntWalk.i64_in _ (by omega)
  clear hgk hk1 hk4
  by_cases ho : m % 2 = 1
  · have ho1 : ((m : Int) % 2 == 1) = true := by simp; omega
    have ho2 : (m : Int) % 2 = 1 := by omega
    by_cases hd : d % 2 = 1
    · rw [if_pos ⟨ho, hd⟩]
      have hd1 : ((d : Int) % 2 == 1) = true := by simp; omega
      have hd2 : (d : Int) % 2 = 1 := by omega
      clear ho hd
      go_enter Try.func20, Try.ntmps20
      go_wp2_with fail
      refine HP.out.mono ?_
      rintro e w1 ⟨rfl, hb1⟩
      have HB1 := Lib.hid hb1; clear hb1
      go_wp2_with fail
      refine (HPR.out _).mono ?_
      rintro e _ ⟨rfl, rfl⟩
      go_wp2_with fail
      refine (HC.out _).mono ?_
      rintro e w2 ⟨rfl, hb2⟩
      have HB2 : Hid (Below w.heap.size w w2) := Lib.hid (HB1.out.trans (hb2.mono HB1.out.size)); clear hb2
      go_wp2
      go_ret2
      exact ⟨rfl, HB2.out⟩
    · rw [if_neg fun hh => hd hh.2]
      have hd1 : ((d : Int) % 2 == 1) = false := by simp; omega
      have hd2 : ¬ (d : Int) % 2 = 1 := by omega
      clear ho hd
      go_enter Try.func20, Try.ntmps20
      go_wp2_with fail
      refine HP.out.mono ?_
      rintro e w1 ⟨rfl, hb1⟩
      have HB1 := Lib.hid hb1; clear hb1
      go_wp2_with fail
      refine (HPR.out _).mono ?_
      rintro e _ ⟨rfl, rfl⟩
      go_wp2_with fail
      refine (HC.out _).mono ?_
      rintro e w2 ⟨rfl, hb2⟩
      have HB2 : Hid (Below w.heap.size w w2) := Lib.hid (HB1.out.trans (hb2.mono HB1.out.size)); clear hb2
      go_wp2_with fail
      refine (HPP.out _).mono ?_
      rintro e _ ⟨rfl, rfl⟩
      go_wp2
      go_ret2
      exact ⟨rfl, HB2.out⟩
  · rw [if_neg fun hh => ho hh.1]
    have ho1 : ((m : Int) % 2 == 1) = false := by simp; omega
    have ho2 : ¬ (m : Int) % 2 = 1 := by omega
    clear ho
    go_enter Try.func20, Try.ntmps20
    go_wp2_with fail
    refine HP.out.mono ?_
    rintro e w1 ⟨rfl, hb1⟩
    have HB1 := Lib.hid hb1; clear hb1
    go_wp2_with fail
    refine (HPR.out _).mono ?_
    rintro e _ ⟨rfl, rfl⟩
    go_wp2_with fail
    refine (HC.out _).mono ?_
    rintro e w2 ⟨rfl, hb2⟩
    have HB2 : Hid (Below w.heap.size w w2) := Lib.hid (HB1.out.trans (hb2.mono HB1.out.size)); clear hb2
    go_wp2_with fail
    refine (HPP.out _).mono ?_
    rintro e _ ⟨rfl, rfl⟩
    go_wp2
    go_ret2
    exact ⟨rfl, HB2.out⟩
set_option maxRecDepth 100000 in
set_option maxHeartbeats 4000000 in
theorem impl_SumPowerCount_yes (m j : Nat) (w : World) (h : isSz (m : Int) = true) (hj : j ≤ plN m) :
    Calls Try.prog 21 #[.int .i64 m, .int .i64 j] w fun e w' => e = .returned (.tuple #[.int .i64 (spc m j), .bool true]) ∧ Below w.heap.size w w' := by
  have HP := Lib.hid (fieldOfSumPower_yes m j w h hj)
  have HS := Lib.hid (fun w => sumPowerCountE m j w h hj)
  clear h hj
  generalize spc m j = r at *
  go_enter Try.func21, Try.ntmps21
  go_wp2_with fail
  refine HP.out.mono ?_
  rintro e w1 ⟨rfl, hb1⟩
  have HB1 := Lib.hid hb1; clear hb1
  go_wp2_with fail
  refine (HS.out _).mono ?_
  rintro e w2 ⟨rfl, hb2⟩
  have HB2 : Hid (Below w.heap.size w w2) := Lib.hid (by have hb1 := HB1.out; have hz1 := hb1.size; (repeat' (first | (with_reducible assumption) | (with_reducible exact Below.refl _ _) | (with_reducible refine below_drewN ?_ _) | (with_reducible refine Below.drew ?_) | (with_reducible refine Below.alloc ?_ ?_ _) | (with_reducible refine Below.setCell ?_ ?_ _) | (with_reducible refine Below.trans ?_ (Below.mono (by assumption) ?_)) | (with_reducible exact Nat.le_refl _) | (with_reducible assumption) | omega | (simp; omega) | (simp; done)))); clear hb2
  go_wp2
  go_ret2
  exact ⟨rfl, HB2.out⟩
theorem key_SumPowerCount (q : Int) (i : Int) : ∃ (r : Int) (o : Bool), (∀ (w : World), Calls Try.prog 20 #[.int .i64 q, .int .i64 i] w fun e w' => e = .returned (.tuple #[.int .i64 r, .bool o]) ∧ Below w.heap.size w w') ∧
      (∀ (w : World), Calls Try.prog 21 #[.int .i64 q, .int .i64 i] w fun e w' => e = .returned (.tuple #[.int .i64 r, .bool o]) ∧ Below w.heap.size w w') := by
  cases h : spo q i with
  | false => exact ⟨0, false, fun w => spec_SumPowerCount_no q i w h, fun w => impl_SumPowerCount_no q i w h⟩
  | true =>
    obtain ⟨m, j, rfl, rfl, hs, hj⟩ := spo_nat h
    have hq := isSz_le (m : Int) hs
    exact ⟨_, true, fun w => spec_SumPowerCount_yes m j w hs hj, fun w => impl_SumPowerCount_yes m j w hs hj⟩
set_option maxRecDepth 100000 in
set_option maxHeartbeats 4000000 in
/-- laws.FnExactSumPowerCount. -/
theorem walk_FnExactSumPowerCount (q : Int) (i : Int) (w : World) (_h_q : (Lit.int .i64 q).wf = true) (_h_i : (Lit.int .i64 i).wf = true) :
    Calls Try.prog 5 #[.int .i64 q, .int .i64 i] w fun e w' => e = .returned (.bool true) ∧ Below w.heap.size w w' := by
  clear _h_q
  clear _h_i
  obtain ⟨r, o, k1, k2⟩ := key_SumPowerCount q i
  have K1 := Lib.hid k1; clear k1
  have K2 := Lib.hid k2; clear k2
  have HB0 : Hid (Below w.heap.size w w) := Lib.hid (Below.refl _ _)
  go_enter Try.func5, Try.ntmps5
  go_wp2_with fail
  refine (K1.out _ ).mono ?_
  rintro e w1 ⟨rfl, hbw1⟩
  have hzw1 : w.heap.size ≤ w1.heap.size := hbw1.size
  have HBw1 : Hid (Below w.heap.size w w1) := Lib.hid (HB0.out.trans (hbw1.mono HB0.out.size))
  have hww1 := HBw1.out.size
  clear hbw1 HB0
  go_wp2_with fail
  refine (K2.out _ ).mono ?_
  rintro e w2 ⟨rfl, hbw2⟩
  have hzw2 : w1.heap.size ≤ w2.heap.size := hbw2.size
  have HBw2 : Hid (Below w.heap.size w w2) := Lib.hid (HBw1.out.trans (hbw2.mono HBw1.out.size))
  have hww2 := HBw2.out.size
  clear hbw2 HBw1
  go_wp2
  go_ret
  exact ⟨rfl, HBw2.out⟩
end Go.Proofs.Ytgndlpdcebmgmab
