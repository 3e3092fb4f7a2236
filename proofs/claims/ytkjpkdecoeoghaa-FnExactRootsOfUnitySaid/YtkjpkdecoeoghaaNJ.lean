/- Divisors of the size less one; polynomials of powers: IndexedPoly, of both; DicksonAt, of both; the walks of their laws. -/
import Derived.Test.YtkjpkdecoeoghaaNI
import Derived.Test.YtkjpkdecoeoghaaKL
namespace Go.Proofs.Ytkjpkdecoeoghaa
open Go.RowKit
/-- A divisor of the size less one. -/
def dvd (q d : Int) : Bool := isSz q && ((decide (1 ≤ d) && decide (d ≤ q - 1)) && decide ((q - 1) % d = 0))
theorem dvd_nat {q d : Int} (h : dvd q d = true) : ∃ m k : Nat, q = (m : Int) ∧ d = (k : Int) ∧ isSz (m : Int) = true ∧ 1 ≤ k ∧ k ≤ m - 1 ∧ (m - 1) % k = 0 := by
  simp only [dvd, Bool.and_eq_true, decide_eq_true_eq] at h
  obtain ⟨hs, ⟨h1, h2⟩, h3⟩ := h
  have hq := isSz_le q hs
  obtain ⟨m, rfl⟩ := size_nat hs
  refine ⟨m, d.toNat, rfl, by omega, hs, by omega, by omega, ?_⟩
  have e1 : (m : Int) - 1 = ((m - 1 : Nat) : Int) := by omega
  have e2 : d = (d.toNat : Int) := by omega
  rw [e1, e2] at h3
  have : (((m - 1) % d.toNat : Nat) : Int) = 0 := h3
  omega
set_option maxHeartbeats 1000000 in
/-- spec.kdDivides. -/
theorem kdDivides_any (q d : Int) (w : World) :
    Calls Try.prog 13 #[.int .i64 q, .int .i64 d] w fun e w' => e = .returned (.bool (dvd q d)) ∧ Below w.heap.size w w' := by
  have HS := Lib.hid (fun w => fdSize_any q w)
  have HL := Lib.hid (fun w => l1In_any d 1 (q - 1) w)
  cases h : isSz q with
  | false =>
    have e0 : dvd q d = false := by unfold dvd; rw [h, Bool.false_and]
    rw [h] at HS
    rw [e0]
    clear h e0
    go_enter Try.func13, Try.ntmps13
    go_wp2_with fail
    refine (HS.out _).mono ?_
    rintro e w1 ⟨rfl, hb1⟩
    go_wp2
    go_ret
    exact ⟨rfl, hb1⟩
  | true =>
    have hq := isSz_le q h
    rw [h] at HS
    by_cases hi : 1 ≤ d ∧ d ≤ q - 1
    · have e1 : (decide (1 ≤ d) && decide (d ≤ q - 1)) = true := by rw [decide_eq_true hi.1, decide_eq_true hi.2]; rfl
      rw [e1] at HL
      have e0 : dvd q d = decide ((q - 1) % d = 0) := by unfold dvd; rw [h, e1, Bool.true_and, Bool.true_and]
      rw [e0]
      obtain ⟨m, rfl⟩ := size_nat h
      obtain ⟨k, rfl⟩ := Int.eq_ofNat_of_zero_le (show 0 ≤ d by omega)
      have z1 : (m : Int) - 1 = ((m - 1 : Nat) : Int) := by omega
      have z3 : ((m - 1 : Nat) : Int) % (k : Int) = (((m - 1) % k : Nat) : Int) := rfl
      have hpos : (0 : Int) < (k : Int) := by omega
      have hne : ((k : Int) == 0) = false := by simp; omega
      have hb : m - 1 ≤ 15 := by omega
      have hrb : (m - 1) % k ≤ m - 1 := Nat.mod_le _ _
      rw [z1] at HL ⊢
      rw [z3]
      clear e0 e1 h
      generalize (m - 1) % k = r at *
      generalize m - 1 = n at *
      have HD : Hid (((r : Int) == 0) = decide ((r : Int) = 0)) := Lib.hid (by
        by_cases hr : (r : Int) = 0
        · rw [hr]; rfl
        · rw [decide_eq_false hr]; simpa using hr)
      go_enter Try.func13, Try.ntmps13
      go_wp2_with fail
      refine (HS.out _).mono ?_
      rintro e w1 ⟨rfl, hb1⟩
      go_wp2_with fail
      refine (HL.out _).mono ?_
      rintro e w2 ⟨rfl, rfl⟩
      go_wp2
      go_ret
      exact ⟨by first | rfl | exact ret_bool HD.out | exact ret_bool HD.out.symm, hb1⟩
    · have e1 : (decide (1 ≤ d) && decide (d ≤ q - 1)) = false := by
        rw [Bool.and_eq_false_iff, decide_eq_false_iff_not, decide_eq_false_iff_not]
        omega
      rw [e1] at HL
      have e0 : dvd q d = false := by unfold dvd; rw [e1, Bool.false_and, Bool.and_false]
      rw [e0]
      clear e0 e1 h hi
      go_enter Try.func13, Try.ntmps13
      go_wp2_with fail
      refine (HS.out _).mono ?_
      rintro e w1 ⟨rfl, hb1⟩
      go_wp2_with fail
      refine (HL.out _).mono ?_
      rintro e w2 ⟨rfl, rfl⟩
      go_wp2
      go_ret
      exact ⟨rfl, hb1⟩
set_option maxHeartbeats 1000000 in
/-- impl.field.dividesUnits. -/
theorem dividesUnitsE (m : Nat) (d : Int) (w : World) (h : isSz (m : Int) = true) :
    Calls Try.prog 16 #[fdE (m : Int), .int .i64 d] w fun e w' => e = .returned (.bool (dvd (m : Int) d)) ∧ Below w.heap.size w w' := by
  have hq := isSz_le (m : Int) h
  by_cases h1 : 1 ≤ d
  · obtain ⟨k, rfl⟩ := Int.eq_ofNat_of_zero_le (show 0 ≤ d by omega)
    have z1 : (m : Int) - 1 = ((m - 1 : Nat) : Int) := by omega
    have z3 : ((m - 1 : Nat) : Int) % (k : Int) = (((m - 1) % k : Nat) : Int) := rfl
    have e0 : dvd (m : Int) (k : Int) = decide ((((m - 1) % k : Nat) : Int) = 0) := by
      unfold dvd
      rw [h, Bool.true_and, decide_eq_true h1, Bool.true_and, z1, z3]
      by_cases h2 : (k : Int) ≤ ((m - 1 : Nat) : Int)
      · rw [decide_eq_true h2, Bool.true_and]
      · rw [decide_eq_false h2, Bool.false_and, decide_eq_false]
        rw [Nat.mod_eq_of_lt (by omega)]
        omega
    rw [e0]
    have hpos : (0 : Int) < (k : Int) := by omega
    have hne : ((k : Int) == 0) = false := by simp; omega
    have hb : m - 1 ≤ 15 := by omega
    have hrb : (m - 1) % k ≤ m - 1 := Nat.mod_le _ _
    clear e0 h
    generalize (m - 1) % k = r at *
    generalize m - 1 = n at *
    have HD : Hid (((r : Int) == 0) = decide ((r : Int) = 0)) := Lib.hid (by
        by_cases hr : (r : Int) = 0
        · rw [hr]; rfl
        · rw [decide_eq_false hr]; simpa using hr)
    go_enter Try.func16, Try.ntmps16
    go_wp2
    go_ret
    exact ⟨by first | rfl | exact ret_bool HD.out | exact ret_bool HD.out.symm, by (repeat' (first | (with_reducible assumption) | (with_reducible exact Below.refl _ _) | (with_reducible refine below_drewN ?_ _) | (with_reducible refine Below.drew ?_) | (with_reducible refine Below.alloc ?_ ?_ _) | (with_reducible refine Below.setCell ?_ ?_ _) | (with_reducible refine Below.trans ?_ (Below.mono (by assumption) ?_)) | (with_reducible exact Nat.le_refl _) | (with_reducible assumption) | omega | (simp; omega) | (simp; done)))⟩
  · have e0 : dvd (m : Int) d = false := by unfold dvd; rw [decide_eq_false h1, Bool.false_and, Bool.false_and, Bool.and_false]
    rw [e0]
    clear e0 h
    go_enter Try.func16, Try.ntmps16
    go_wp2
    go_ret
    exact ⟨rfl, by (repeat' (first | (with_reducible assumption) | (with_reducible exact Below.refl _ _) | (with_reducible refine below_drewN ?_ _) | (with_reducible refine Below.drew ?_) | (with_reducible refine Below.alloc ?_ ?_ _) | (with_reducible refine Below.setCell ?_ ?_ _) | (with_reducible refine Below.trans ?_ (Below.mono (by assumption) ?_)) | (with_reducible exact Nat.le_refl _) | (with_reducible assumption) | omega | (simp; omega) | (simp; done)))⟩
theorem tb_good {m : Nat} {l : List Int} (h : isSz (m : Int) = true) (hg : good (m : Int) l = true) : Tb m (fun i => l.getD i 0) l.length (fun a => val m (fun i => l.getD i 0) l.length (a : Int)) := by
  have hp := good_parts hg
  have hel := all_el h hp.2
  have hz : ∀ i, l.length ≤ i → (fun i => l.getD i 0) i = 0 := fun i hi => by simp [List.getD, hi]
  refine ⟨hel, by have := hp.1; omega, hz, ?_, fun a ha => val_more h hel (El.nat ha) (by have := hp.1; omega) hz⟩
  cases hn : l.length with
  | zero => rfl
  | succ k =>
    have h0 : 0 < l.length := by omega
    have hl := good_last hp.1 hp.2 h0
    rw [hg, hn, Nat.add_sub_cancel] at hl
    have := of_decide_eq_true hl.symm
    rw [sn, if_neg]
    show l.getD k 0 ≠ 0
    omega
/-- A polynomial of powers is asked for. -/
def ixd (q r s : Int) (l : List Int) : Bool := dvd q s && ((decide (1 ≤ r) && decide (r ≤ q - 1)) && good q l)
theorem ixd_nat {q r s : Int} {l : List Int} (h : ixd q r s l = true) : ∃ m R S : Nat, q = (m : Int) ∧ r = (R : Int) ∧ s = (S : Int) ∧ isSz (m : Int) = true ∧ 1 ≤ R ∧ R ≤ m - 1 ∧ 1 ≤ S ∧ S ≤ m - 1 ∧ (m - 1) % S = 0 ∧ good (m : Int) l = true ∧ dvd (m : Int) (S : Int) = true := by
  simp only [ixd, Bool.and_eq_true, decide_eq_true_eq] at h
  obtain ⟨hd, ⟨h1, h2⟩, hg⟩ := h
  obtain ⟨m, S, rfl, rfl, hs, h3, h4, h5⟩ := dvd_nat hd
  exact ⟨m, r.toNat, S, rfl, by omega, rfl, hs, by omega, by omega, h3, h4, h5, hg, hd⟩
set_option maxHeartbeats 1000000 in
/-- spec.kdIndexed. -/
theorem kdIndexed_any (q r s : Int) (v : Value) (l : List Int) (w : World) (hv : Sl w v l) (hl : l.length ≤ 1048576) :
    Calls Try.prog 21 #[.int .i64 q, .int .i64 r, .int .i64 s, v] w fun e w' => e = .returned (.bool (ixd q r s l)) ∧ Below w.heap.size w w' := by
  have HD := Lib.hid (fun w => kdDivides_any q s w)
  cases h : dvd q s with
  | false =>
    have e0 : ixd q r s l = false := by unfold ixd; rw [h, Bool.false_and]
    rw [h] at HD
    rw [e0]
    clear h e0 hv
    go_enter Try.func21, Try.ntmps21
    go_wp2_with fail
    refine (HD.out _).mono ?_
    rintro e w1 ⟨rfl, hb1⟩
    go_wp2
    go_ret
    exact ⟨rfl, hb1⟩
  | true =>
    have hs : isSz q = true := by
      simp only [dvd, Bool.and_eq_true] at h
      exact h.1
    have hq := isSz_le q hs
    have HL := Lib.hid (fun w => l1In_any r 1 (q - 1) w)
    have HG := Lib.hid (fun w' (hb : Below w.heap.size w w') => plGood_any q v l w' (hv.below hb (Nat.le_refl _)) hl)
    rw [h] at HD
    cases h2 : (decide (1 ≤ r) && decide (r ≤ q - 1)) with
    | false =>
      have e0 : ixd q r s l = false := by unfold ixd; rw [h2, Bool.false_and, Bool.and_false]
      rw [h2] at HL
      rw [e0]
      clear h e0 hv h2 hs
      go_enter Try.func21, Try.ntmps21
      go_wp2_with fail
      refine (HD.out _).mono ?_
      rintro e w1 ⟨rfl, hb1⟩
      go_wp2_with fail
      refine (HL.out _).mono ?_
      rintro e w2 ⟨rfl, rfl⟩
      go_wp2
      go_ret
      exact ⟨rfl, hb1⟩
    | true =>
      have e0 : ixd q r s l = good q l := by unfold ixd; rw [h, h2, Bool.true_and, Bool.true_and]
      rw [h2] at HL
      rw [hs, Bool.true_and] at HG
      rw [e0]
      clear h e0 hv h2 hs
      generalize good q l = g at *
      go_enter Try.func21, Try.ntmps21
      go_wp2_with fail
      refine (HD.out _).mono ?_
      rintro e w1 ⟨rfl, hb1⟩
      have hz_hb1 := hb1.size; (try simp at hz_hb1)
      have HB1 := Lib.hid hb1; clear hb1
      go_wp2_with fail
      refine (HL.out _).mono ?_
      rintro e w2 ⟨rfl, rfl⟩
      go_wp2_with fail
      refine (HG.out _ HB1.out).mono ?_
      rintro e w3 ⟨rfl, hb3⟩
      go_wp2
      go_ret
      exact ⟨rfl, HB1.out.trans (hb3.mono HB1.out.size)⟩
set_option maxHeartbeats 2000000 in
/-- impl.validIndexed. -/
theorem validIndexed_yes (m R S : Nat) (v : Value) (l : List Int) (w : World) (hs : isSz (m : Int) = true) (hR : 1 ≤ R) (hR2 : R ≤ m - 1) (hd : dvd (m : Int) (S : Int) = true) (hv : Sl w v l) (hg : good (m : Int) l = true) :
    Calls Try.prog 27 #[.int .i64 m, .int .i64 R, .int .i64 S, v] w fun e w' => ∃ g, e = .returned (.tuple #[polyE (m : Int) (.slice (some ⟨g, 0, none⟩) l.length l.length), .bool true]) ∧ g < w'.heap.size ∧ Els w' g (m : Int) (fun i => l.getD i 0) l.length ∧ Below w.heap.size w w' := by
  have hq := isSz_le (m : Int) hs
  have HP := Lib.hid (fun w' (hb : Below w.heap.size w w') => validPoly_yes (m : Int) v l w' hs (hv.below hb (Nat.le_refl _)) hg)
  have HU := Lib.hid (fun w => dividesUnitsE m (S : Int) w hs)
  rw [hd] at HU
  have hr1 : ¬ (R : Int) < 1 := by omega
  have hr2 : ¬ (m : Int) ≤ (R : Int) := by omega
  clear hs hd hv hg
  generalize (fun i => l.getD i 0) = f at *
  generalize l.length = n at *
  go_enter Try.func27, Try.ntmps27
  go_wp2_with fail
  refine (HP.out _ (by (repeat' (first | (with_reducible assumption) | (with_reducible exact Below.refl _ _) | (with_reducible refine below_drewN ?_ _) | (with_reducible refine Below.drew ?_) | (with_reducible refine Below.alloc ?_ ?_ _) | (with_reducible refine Below.setCell ?_ ?_ _) | (with_reducible refine Below.trans ?_ (Below.mono (by assumption) ?_)) | (with_reducible exact Nat.le_refl _) | (with_reducible assumption) | omega | (simp; omega) | (simp; done))))).mono ?_
  rintro e w1 ⟨g1, rfl, hg1, hk1, he1, hb1⟩
  have hgl := hk1.lt
  have HE1 := Lib.hid he1
  clear he1 hk1
  have hr1' : w1.heap[w.heap.size]? = some pzblk := (hb1.block _ (by simp)).trans (heap_alloc_new w _)
  have HR := Lib.hid hr1'
  obtain ⟨hc1, hf1⟩ := bcell hb1; have hz1 := hb1.size; (try simp at hz1); have HB1 := Lib.hid hb1; clear hb1
  simp at hg1
  go_wp2_with fail
  refine (HU.out _).mono ?_
  rintro e w2 ⟨rfl, hb2⟩
  have hr2' : w2.heap[w.heap.size]? = some pzblk := (hb2.block _ (by simp; omega)).trans ((Below.heap_alloc _ _ _ (by omega)).trans HR.out)
  obtain ⟨r0, r1, r2, r3, rf, rl0⟩ := cells4 hr2'
  have HE2 := Lib.hid (HE1.out.below (w' := w2) (B := w1.heap.size) (by (repeat' (first | (with_reducible assumption) | (with_reducible exact Below.refl _ _) | (with_reducible refine below_drewN ?_ _) | (with_reducible refine Below.drew ?_) | (with_reducible refine Below.alloc ?_ ?_ _) | (with_reducible refine Below.setCell ?_ ?_ _) | (with_reducible refine Below.trans ?_ (Below.mono (by assumption) ?_)) | (with_reducible exact Nat.le_refl _) | (with_reducible assumption) | omega | (simp; omega) | (simp; done)))) hgl)
  obtain ⟨hc2, hf2⟩ := bcell hb2; have hz2 := hb2.size; (try simp at hz2); have HB2 := Lib.hid hb2; clear hb2
  go_wp2_with fail
  refine bodyPost_ret (v := .tuple #[polyE (m : Int) (.slice (some ⟨g1, 0, none⟩) n n), .bool true]) (by simp [results, Try.results27, go_sem, r0, r1, r2, r3]) rfl ⟨g1, rfl, by simp; omega, ?_, ?_⟩
  · exact HE2.out.over hr2' (by omega) (fun k hk => put4_other _ _ _ _ _ hk)
  · have hb1 := HB1.out
    have hb2 := HB2.out
    (repeat' (first | (with_reducible assumption) | (with_reducible exact Below.refl _ _) | (with_reducible refine below_drewN ?_ _) | (with_reducible refine Below.drew ?_) | (with_reducible refine Below.alloc ?_ ?_ _) | (with_reducible refine Below.setCell ?_ ?_ _) | (with_reducible refine Below.trans ?_ (Below.mono (by assumption) ?_)) | (with_reducible exact Nat.le_refl _) | (with_reducible assumption) | omega | (simp; omega) | (simp; done)))
theorem validIndexed_no1 (q r s : Int) (v : Value) (l : List Int) (w : World) (hv : Sl w v l) (hl : l.length ≤ 1048576) (hg : (isSz q && good q l) = false) :
    Calls Try.prog 27 #[.int .i64 q, .int .i64 r, .int .i64 s, v] w fun e w' => e = .returned (.tuple #[polyZ, .bool false]) ∧ Below w.heap.size w w' := by
  have HP := Lib.hid (fun w' (hb : Below w.heap.size w w') => validPoly_no q v l w' (hv.below hb (Nat.le_refl _)) hl hg)
  clear hg hv hl
  go_enter Try.func27, Try.ntmps27
  go_wp2_with fail
  refine (HP.out _ (by (repeat' (first | (with_reducible assumption) | (with_reducible exact Below.refl _ _) | (with_reducible refine below_drewN ?_ _) | (with_reducible refine Below.drew ?_) | (with_reducible refine Below.alloc ?_ ?_ _) | (with_reducible refine Below.setCell ?_ ?_ _) | (with_reducible refine Below.trans ?_ (Below.mono (by assumption) ?_)) | (with_reducible exact Nat.le_refl _) | (with_reducible assumption) | omega | (simp; omega) | (simp; done))))).mono ?_
  rintro e w1 ⟨rfl, hb1⟩
  obtain ⟨hc1, hf1⟩ := bcell hb1; have hz1 := hb1.size; (try simp at hz1); have HB1 := Lib.hid hb1; clear hb1
  have l1 : w.heap.size < w1.heap.size := by omega
  go_wp2_with fail
  have hb1 := HB1.out
  have q0 : w1.heap[w.heap.size]? = some pzblk := (Below.block (B := w.heap.size + 1) (show Below (w.heap.size + 1) (w.alloc pzblk) w1 by (repeat' (first | (with_reducible assumption) | (with_reducible exact Below.refl _ _) | (with_reducible refine below_drewN ?_ _) | (with_reducible refine Below.drew ?_) | (with_reducible refine Below.alloc ?_ ?_ _) | (with_reducible refine Below.setCell ?_ ?_ _) | (with_reducible refine Below.trans ?_ (Below.mono (by assumption) ?_)) | (with_reducible exact Nat.le_refl _) | (with_reducible assumption) | omega | (simp; omega) | (simp; done)))) w.heap.size (by omega)).trans (heap_alloc_new w _)
  obtain ⟨s0, s1, s2, s3, sf, sl⟩ := cells4 q0
  clear q0
  refine bodyPost_ret (v := .tuple #[polyZ, .bool false]) (by simp [results, Try.results27, go_sem, s0, s1, s2, s3, l1]) rfl ⟨rfl, ?_⟩
  (repeat' (first | (with_reducible assumption) | (with_reducible exact Below.refl _ _) | (with_reducible refine below_drewN ?_ _) | (with_reducible refine Below.drew ?_) | (with_reducible refine Below.alloc ?_ ?_ _) | (with_reducible refine Below.setCell ?_ ?_ _) | (with_reducible refine Below.trans ?_ (Below.mono (by assumption) ?_)) | (with_reducible exact Nat.le_refl _) | (with_reducible assumption) | omega | (simp; omega) | (simp; done)))
theorem validIndexed_no2 (m : Nat) (r s : Int) (v : Value) (l : List Int) (w : World) (hs : isSz (m : Int) = true) (hr : r < 1 ∨ 1 ≤ r ∧ (m : Int) ≤ r) (hv : Sl w v l) (hg : good (m : Int) l = true) :
    Calls Try.prog 27 #[.int .i64 m, .int .i64 r, .int .i64 s, v] w fun e w' => e = .returned (.tuple #[polyZ, .bool false]) ∧ Below w.heap.size w w' := by
  have HP := Lib.hid (fun w' (hb : Below w.heap.size w w') => validPoly_yes (m : Int) v l w' hs (hv.below hb (Nat.le_refl _)) hg)
  clear hg hv hs
  generalize (fun i => l.getD i 0) = f at *
  generalize l.length = n at *
  rcases hr with h3 | ⟨h3, h4⟩
  all_goals
    go_enter Try.func27, Try.ntmps27
    go_wp2_with fail
    refine (HP.out _ (by (repeat' (first | (with_reducible assumption) | (with_reducible exact Below.refl _ _) | (with_reducible refine below_drewN ?_ _) | (with_reducible refine Below.drew ?_) | (with_reducible refine Below.alloc ?_ ?_ _) | (with_reducible refine Below.setCell ?_ ?_ _) | (with_reducible refine Below.trans ?_ (Below.mono (by assumption) ?_)) | (with_reducible exact Nat.le_refl _) | (with_reducible assumption) | omega | (simp; omega) | (simp; done))))).mono ?_
    rintro e w1 ⟨g1, rfl, hg1, hk1, he1, hb1⟩
    clear hk1 he1
    obtain ⟨hc1, hf1⟩ := bcell hb1; have hz1 := hb1.size; (try simp at hz1); have HB1 := Lib.hid hb1; clear hb1
    have l1 : w.heap.size < w1.heap.size := by omega
    go_wp2_with fail
    have hb1 := HB1.out
    have q0 : w1.heap[w.heap.size]? = some pzblk := (Below.block (B := w.heap.size + 1) (show Below (w.heap.size + 1) (w.alloc pzblk) w1 by (repeat' (first | (with_reducible assumption) | (with_reducible exact Below.refl _ _) | (with_reducible refine below_drewN ?_ _) | (with_reducible refine Below.drew ?_) | (with_reducible refine Below.alloc ?_ ?_ _) | (with_reducible refine Below.setCell ?_ ?_ _) | (with_reducible refine Below.trans ?_ (Below.mono (by assumption) ?_)) | (with_reducible exact Nat.le_refl _) | (with_reducible assumption) | omega | (simp; omega) | (simp; done)))) w.heap.size (by omega)).trans (heap_alloc_new w _)
    obtain ⟨s0, s1, s2, s3, sf, sl⟩ := cells4 q0
    clear q0
    refine bodyPost_ret (v := .tuple #[polyZ, .bool false]) (by simp [results, Try.results27, go_sem, s0, s1, s2, s3, l1]) rfl ⟨rfl, ?_⟩
    (repeat' (first | (with_reducible assumption) | (with_reducible exact Below.refl _ _) | (with_reducible refine below_drewN ?_ _) | (with_reducible refine Below.drew ?_) | (with_reducible refine Below.alloc ?_ ?_ _) | (with_reducible refine Below.setCell ?_ ?_ _) | (with_reducible refine Below.trans ?_ (Below.mono (by assumption) ?_)) | (with_reducible exact Nat.le_refl _) | (with_reducible assumption) | omega | (simp; omega) | (simp; done)))
set_option maxHeartbeats 1000000 in
theorem validIndexed_no3 (m R : Nat) (s : Int) (v : Value) (l : List Int) (w : World) (hs : isSz (m : Int) = true) (hR : 1 ≤ R) (hR2 : R ≤ m - 1) (hd : dvd (m : Int) s = false) (hv : Sl w v l) (hg : good (m : Int) l = true) :
    Calls Try.prog 27 #[.int .i64 m, .int .i64 R, .int .i64 s, v] w fun e w' => e = .returned (.tuple #[polyZ, .bool false]) ∧ Below w.heap.size w w' := by
  have hq := isSz_le (m : Int) hs
  have HP := Lib.hid (fun w' (hb : Below w.heap.size w w') => validPoly_yes (m : Int) v l w' hs (hv.below hb (Nat.le_refl _)) hg)
  have HU := Lib.hid (fun w => dividesUnitsE m s w hs)
  rw [hd] at HU
  have hr1 : ¬ (R : Int) < 1 := by omega
  have hr2 : ¬ (m : Int) ≤ (R : Int) := by omega
  clear hs hd hv hg
  generalize (fun i => l.getD i 0) = f at *
  generalize l.length = n at *
  go_enter Try.func27, Try.ntmps27
  go_wp2_with fail
  refine (HP.out _ (by (repeat' (first | (with_reducible assumption) | (with_reducible exact Below.refl _ _) | (with_reducible refine below_drewN ?_ _) | (with_reducible refine Below.drew ?_) | (with_reducible refine Below.alloc ?_ ?_ _) | (with_reducible refine Below.setCell ?_ ?_ _) | (with_reducible refine Below.trans ?_ (Below.mono (by assumption) ?_)) | (with_reducible exact Nat.le_refl _) | (with_reducible assumption) | omega | (simp; omega) | (simp; done))))).mono ?_
  rintro e w1 ⟨g1, rfl, hg1, hk1, he1, hb1⟩
  clear hk1 he1
  obtain ⟨hc1, hf1⟩ := bcell hb1; have hz1 := hb1.size; (try simp at hz1); have HB1 := Lib.hid hb1; clear hb1
  have l1 : w.heap.size < w1.heap.size := by omega
  go_wp2_with fail
  refine (HU.out _).mono ?_
  rintro e w2 ⟨rfl, hb2⟩
  obtain ⟨hc2, hf2⟩ := bcell hb2; have hz2 := hb2.size; (try simp at hz2); have HB2 := Lib.hid hb2; clear hb2
  have l2 : w.heap.size < w2.heap.size := by omega
  have l3 : w1.heap.size < w2.heap.size := by omega
  go_wp2_with fail
  have hb1 := HB1.out
  have hb2 := HB2.out
  have q0 : w2.heap[w.heap.size]? = some pzblk := (Below.block (B := w.heap.size + 1) (show Below (w.heap.size + 1) (w.alloc pzblk) w2 by (repeat' (first | (with_reducible assumption) | (with_reducible exact Below.refl _ _) | (with_reducible refine below_drewN ?_ _) | (with_reducible refine Below.drew ?_) | (with_reducible refine Below.alloc ?_ ?_ _) | (with_reducible refine Below.setCell ?_ ?_ _) | (with_reducible refine Below.trans ?_ (Below.mono (by assumption) ?_)) | (with_reducible exact Nat.le_refl _) | (with_reducible assumption) | omega | (simp; omega) | (simp; done)))) w.heap.size (by omega)).trans (heap_alloc_new w _)
  obtain ⟨s0, s1, s2, s3, sf, sl⟩ := cells4 q0
  clear q0
  refine bodyPost_ret (v := .tuple #[polyZ, .bool false]) (by simp [results, Try.results27, go_sem, s0, s1, s2, s3]) rfl ⟨rfl, ?_⟩
  (repeat' (first | (with_reducible assumption) | (with_reducible exact Below.refl _ _) | (with_reducible refine below_drewN ?_ _) | (with_reducible refine Below.drew ?_) | (with_reducible refine Below.alloc ?_ ?_ _) | (with_reducible refine Below.setCell ?_ ?_ _) | (with_reducible refine Below.trans ?_ (Below.mono (by assumption) ?_)) | (with_reducible exact Nat.le_refl _) | (with_reducible assumption) | omega | (simp; omega) | (simp; done)))
theorem validIndexed_no (q r s : Int) (v : Value) (l : List Int) (w : World) (hv : Sl w v l) (hl : l.length ≤ 1048576) (h : ixd q r s l = false) :
    Calls Try.prog 27 #[.int .i64 q, .int .i64 r, .int .i64 s, v] w fun e w' => e = .returned (.tuple #[polyZ, .bool false]) ∧ Below w.heap.size w w' := by
  cases hs : isSz q && good q l with
  | false => exact validIndexed_no1 q r s v l w hv hl hs
  | true =>
    have hs2 := hs
    simp only [Bool.and_eq_true] at hs2
    have hq := isSz_le q hs2.1
    obtain ⟨m, rfl⟩ := size_nat hs2.1
    by_cases h1 : r < 1 ∨ 1 ≤ r ∧ (m : Int) ≤ r
    · exact validIndexed_no2 m r s v l w hs2.1 h1 hv hs2.2
    · obtain ⟨R, rfl⟩ := Int.eq_ofNat_of_zero_le (show 0 ≤ r by omega)
      unfold ixd at h
      rw [hs2.2, decide_eq_true (show (1 : Int) ≤ (R : Int) by omega), decide_eq_true (show (R : Int) ≤ (m : Int) - 1 by omega)] at h
      exact validIndexed_no3 m R s v l w hs2.1 (by omega) (by omega) (by simpa using h) hv hs2.2
/-- The memory of indexed between two rounds. -/
structure TX (w0 wr : World) (q : Int) (v : Value) (c : Nat → Int) (N g : Nat) : Prop where
  hp : wr.heap[w0.heap.size]? = some (pblk q v)
  hr : wr.heap[w0.heap.size + 1]? = some pzblk
  hk : Blk wr g N
  he : Els wr g q c N
  bel : Below w0.heap.size w0 wr
  lt : w0.heap.size + 1 < g
theorem TX.below {w0 wr w' : World} {q : Int} {v : Value} {c : Nat → Int} {N g B : Nat} (h : TX w0 wr q v c N g) (hb : Below B wr w') (hB : wr.heap.size ≤ B) : TX w0 w' q v c N g := by
  have hg := h.hk.lt
  have hl := h.lt
  have hs := h.bel.size
  exact ⟨(hb.block _ (by omega)).trans h.hp, (hb.block _ (by omega)).trans h.hr, h.hk.below hb (by omega), h.he.below hb (by omega), h.bel.trans (hb.mono (by omega)), hl⟩
theorem TX.step {w0 wr : World} {q : Int} {v : Value} {c : Nat → Int} {N g i : Nat} (h : TX w0 wr q v c N g) (hi : i < N) (x : Int) : TX w0 (put7i wr g i q x) q v (upd c i x) N g := by
  have hl := h.lt
  obtain ⟨he, hk⟩ := Els.put x h.hk hi (Nat.le_refl _) h.he
  exact ⟨(put7i_other _ _ _ _ _ _ (by omega)).trans h.hp, (put7i_other _ _ _ _ _ _ (by omega)).trans h.hr, hk, he, put7i_below h.bel _ (by omega) _ _ _, hl⟩
theorem Els.upto {w : World} {g n k : Nat} {q : Int} {f : Nat → Int} (h : Els w g q f n) (hk : k ≤ n) : Els w g q f k := fun j hj => h j (by omega)
/-- The table of IndexedPoly. -/
def ixt (m R S : Nat) (f : Nat → Int) (n : Nat) : Nat → Int := fun a => mulF m (pw m (a : Int) R) (val m f n (pw m (a : Int) S))
end Go.Proofs.Ytkjpkdecoeoghaa
