/- Divisors of the size less one; polynomials of powers: IndexedPoly, of both; DicksonAt, of both; the walks of their laws. -/
import Derived.Test.YtiefbhkigngegaaNI
import Derived.Test.YtiefbhkigngegaaKL
namespace Go.Proofs.Ytiefbhkigngegaa
open Go.RowKit
/-- A divisor of the size less one. -/
def dvd (q d : Int) : Bool := isSz q && ((decide (1 ≤ d) && decide (d ≤ q - 1)) && decide ((q - 1) % d = 0))
theorem dvd_nat {q d : Int} (h : dvd q d = true) : ∃ m k : Nat, q = (m : Int) ∧ d = (k : Int) ∧ isSz (m : Int) = true ∧ 1 ≤ k ∧ k ≤ m - 1 ∧ (m - 1) % k = 0 := by
  simp only [dvd, Bool.and_eq_true, decide_eq_true_eq] at h
  obtain ⟨hs, ⟨h1, h2⟩, h3⟩ := h
  have hq := isSz_le q hs
  obtain ⟨m, rfl⟩ := size_nat hs
  refine ⟨m, d.toNat, rfl, by omega, hs, by omega, by omega, ?_⟩
  have e1 : (m : Int) - 1 = ((m - 1 : Nat) : Int) := by omega
  have e2 : d = (d.toNat : Int) := by omega
  rw [e1, e2] at h3
  have : (((m - 1) % d.toNat : Nat) : Int) = 0 := h3
  omega
set_option maxHeartbeats 1000000 in
/-- spec.kdDivides. -/
theorem kdDivides_any (q d : Int) (w : World) :
    Calls Try.prog 65 #[.int .i64 q, .int .i64 d] w fun e w' => e = .returned (.bool (dvd q d)) ∧ Below w.heap.size w w' := by
  have HS := Lib.hid (fun w => fdSize_any q w)
  have HL := Lib.hid (fun w => l1In_any d 1 (q - 1) w)
  cases h : isSz q with
  | false =>
    have e0 : dvd q d = false := by unfold dvd; rw [h, Bool.false_and]
    rw [h] at HS
    rw [e0]
    clear h e0
    go_enter Try.func65, Try.ntmps65
    go_wp2_with fail
    refine (HS.out _).mono ?_
    rintro e w1 ⟨rfl, hb1⟩
    go_wp2
    go_ret
    exact ⟨rfl, hb1⟩
  | true =>
    have hq := isSz_le q h
    rw [h] at HS
    by_cases hi : 1 ≤ d ∧ d ≤ q - 1
    · have e1 : (decide (1 ≤ d) && decide (d ≤ q - 1)) = true := by rw [decide_eq_true hi.1, decide_eq_true hi.2]; rfl
      rw [e1] at HL
      have e0 : dvd q d = decide ((q - 1) % d = 0) := by unfold dvd; rw [h, e1, Bool.true_and, Bool.true_and]
      rw [e0]
      obtain ⟨m, rfl⟩ := size_nat h
      obtain ⟨k, rfl⟩ := Int.eq_ofNat_of_zero_le (show 0 ≤ d by omega)
      have z1 : (m : Int) - 1 = ((m - 1 : Nat) : Int) := by omega
      have z3 : ((m - 1 : Nat) : Int) % (k : Int) = (((m - 1) % k : Nat) : Int) := rfl
      have hpos : (0 : Int) < (k : Int) := by omega
      have hne : ((k : Int) == 0) = false := by simp; omega
      have hb : m - 1 ≤ 15 := by omega
      have hrb : (m - 1) % k ≤ m - 1 := Nat.mod_le _ _
      rw [z1] at HL ⊢
      rw [z3]
      clear e0 e1 h
      generalize (m - 1) % k = r at *
      generalize m - 1 = n at *
      have HD : Hid (((r : Int) == 0) = decide ((r : Int) = 0)) := Lib.hid (by
        by_cases hr : (r : Int) = 0
        · rw [hr]; rfl
        · rw [decide_eq_false hr]; simpa using hr)
      go_enter Try.func65, Try.ntmps65
      go_wp2_with fail
      refine (HS.out _).mono ?_
      rintro e w1 ⟨rfl, hb1⟩
      go_wp2_with fail
      refine (HL.out _).mono ?_
      rintro e w2 ⟨rfl, rfl⟩
      go_wp2
      go_ret
      exact ⟨by first | rfl | exact ret_bool HD.out | exact ret_bool HD.out.symm, hb1⟩
    · have e1 : (decide (1 ≤ d) && decide (d ≤ q - 1)) = false := by
        rw [Bool.and_eq_false_iff, decide_eq_false_iff_not, decide_eq_false_iff_not]
        omega
      rw [e1] at HL
      have e0 : dvd q d = false := by unfold dvd; rw [e1, Bool.false_and, Bool.and_false]
      rw [e0]
      clear e0 e1 h hi
      go_enter Try.func65, Try.ntmps65
      go_wp2_with fail
      refine (HS.out _).mono ?_
      rintro e w1 ⟨rfl, hb1⟩
      go_wp2_with fail
      refine (HL.out _).mono ?_
      rintro e w2 ⟨rfl, rfl⟩
      go_wp2
      go_ret
      exact ⟨rfl, hb1⟩
set_option maxHeartbeats 1000000 in
/-- impl.field.dividesUnits. -/
theorem dividesUnitsE (m : Nat) (d : Int) (w : World) (h : isSz (m : Int) = true) :
    Calls Try.prog 67 #[fdE (m : Int), .int .i64 d] w fun e w' => e = .returned (.bool (dvd (m : Int) d)) ∧ Below w.heap.size w w' := by
  have hq := isSz_le (m : Int) h
  by_cases h1 : 1 ≤ d
  · obtain ⟨k, rfl⟩ := Int.eq_ofNat_of_zero_le (show 0 ≤ d by omega)
    have z1 : (m : Int) - 1 = ((m - 1 : Nat) : Int) := by omega
    have z3 : ((m - 1 : Nat) : Int) % (k : Int) = (((m - 1) % k : Nat) : Int) := rfl
    have e0 : dvd (m : Int) (k : Int) = decide ((((m - 1) % k : Nat) : Int) = 0) := by
      unfold dvd
      rw [h, Bool.true_and, decide_eq_true h1, Bool.true_and, z1, z3]
      by_cases h2 : (k : Int) ≤ ((m - 1 : Nat) : Int)
      · rw [decide_eq_true h2, Bool.true_and]
      · rw [decide_eq_false h2, Bool.false_and, decide_eq_false]
        rw [Nat.mod_eq_of_lt (by omega)]
        omega
    rw [e0]
    have hpos : (0 : Int) < (k : Int) := by omega
    have hne : ((k : Int) == 0) = false := by simp; omega
    have hb : m - 1 ≤ 15 := by omega
    have hrb : (m - 1) % k ≤ m - 1 := Nat.mod_le _ _
    clear e0 h
    generalize (m - 1) % k = r at *
    generalize m - 1 = n at *
    have HD : Hid (((r : Int) == 0) = decide ((r : Int) = 0)) := Lib.hid (by
        by_cases hr : (r : Int) = 0
        · rw [hr]; rfl
        · rw [decide_eq_false hr]; simpa using hr)
    go_enter Try.func67, Try.ntmps67
    go_wp2
    go_ret
    exact ⟨by first | rfl | exact ret_bool HD.out | exact ret_bool HD.out.symm, by (repeat' (first | (with_reducible assumption) | (with_reducible exact Below.refl _ _) | (with_reducible refine below_drewN ?_ _) | (with_reducible refine Below.drew ?_) | (with_reducible refine Below.alloc ?_ ?_ _) | (with_reducible refine Below.setCell ?_ ?_ _) | (with_reducible refine Below.trans ?_ (Below.mono (by assumption) ?_)) | (with_reducible exact Nat.le_refl _) | (with_reducible assumption) | omega | (simp; omega) | (simp; done)))⟩
  · have e0 : dvd (m : Int) d = false := by unfold dvd; rw [decide_eq_false h1, Bool.false_and, Bool.false_and, Bool.and_false]
    rw [e0]
    clear e0 h
    go_enter Try.func67, Try.ntmps67
    go_wp2
    go_ret
    exact ⟨rfl, by (repeat' (first | (with_reducible assumption) | (with_reducible exact Below.refl _ _) | (with_reducible refine below_drewN ?_ _) | (with_reducible refine Below.drew ?_) | (with_reducible refine Below.alloc ?_ ?_ _) | (with_reducible refine Below.setCell ?_ ?_ _) | (with_reducible refine Below.trans ?_ (Below.mono (by assumption) ?_)) | (with_reducible exact Nat.le_refl _) | (with_reducible assumption) | omega | (simp; omega) | (simp; done)))⟩
theorem tb_good {m : Nat} {l : List Int} (h : isSz (m : Int) = true) (hg : good (m : Int) l = true) : Tb m (fun i => l.getD i 0) l.length (fun a => val m (fun i => l.getD i 0) l.length (a : Int)) := by
  have hp := good_parts hg
  have hel := all_el h hp.2
  have hz : ∀ i, l.length ≤ i → (fun i => l.getD i 0) i = 0 := fun i hi => by simp [List.getD, hi]
  refine ⟨hel, by have := hp.1; omega, hz, ?_, fun a ha => val_more h hel (El.nat ha) (by have := hp.1; omega) hz⟩
  cases hn : l.length with
  | zero => rfl
  | succ k =>
    have h0 : 0 < l.length := by omega
    have hl := good_last hp.1 hp.2 h0
    rw [hg, hn, Nat.add_sub_cancel] at hl
    have := of_decide_eq_true hl.symm
    rw [sn, if_neg]
    show l.getD k 0 ≠ 0
    omega
/-- A polynomial of powers is asked for. -/
def ixd (q r s : Int) (l : List Int) : Bool := dvd q s && ((decide (1 ≤ r) && decide (r ≤ q - 1)) && good q l)
theorem ixd_nat {q r s : Int} {l : List Int} (h : ixd q r s l = true) : ∃ m R S : Nat, q = (m : Int) ∧ r = (R : Int) ∧ s = (S : Int) ∧ isSz (m : Int) = true ∧ 1 ≤ R ∧ R ≤ m - 1 ∧ 1 ≤ S ∧ S ≤ m - 1 ∧ (m - 1) % S = 0 ∧ good (m : Int) l = true ∧ dvd (m : Int) (S : Int) = true := by
  simp only [ixd, Bool.and_eq_true, decide_eq_true_eq] at h
  obtain ⟨hd, ⟨h1, h2⟩, hg⟩ := h
  obtain ⟨m, S, rfl, rfl, hs, h3, h4, h5⟩ := dvd_nat hd
  exact ⟨m, r.toNat, S, rfl, by omega, rfl, hs, by omega, by omega, h3, h4, h5, hg, hd⟩
set_option maxHeartbeats 1000000 in
/-- spec.kdIndexed. -/
theorem kdIndexed_any (q r s : Int) (v : Value) (l : List Int) (w : World) (hv : Sl w v l) (hl : l.length ≤ 1048576) :
    Calls Try.prog 71 #[.int .i64 q, .int .i64 r, .int .i64 s, v] w fun e w' => e = .returned (.bool (ixd q r s l)) ∧ Below w.heap.size w w' := by
  have HD := Lib.hid (fun w => kdDivides_any q s w)
  cases h : dvd q s with
  | false =>
    have e0 : ixd q r s l = false := by unfold ixd; rw [h, Bool.false_and]
    rw [h] at HD
    rw [e0]
    clear h e0 hv
    go_enter Try.func71, Try.ntmps71
    go_wp2_with fail
    refine (HD.out _).mono ?_
    rintro e w1 ⟨rfl, hb1⟩
    go_wp2
    go_ret
    exact ⟨rfl, hb1⟩
  | true =>
    have hs : isSz q = true := by
      simp only [dvd, Bool.and_eq_true] at h
      exact h.1
    have hq := isSz_le q hs
    have HL := Lib.hid (fun w => l1In_any r 1 (q - 1) w)
    have HG := Lib.hid (fun w' (hb : Below w.heap.size w w') => plGood_any q v l w' (hv.below hb (Nat.le_refl _)) hl)
    rw [h] at HD
    cases h2 : (decide (1 ≤ r) && decide (r ≤ q - 1)) with
    | false =>
      have e0 : ixd q r s l = false := by unfold ixd; rw [h2, Bool.false_and, Bool.and_false]
      rw [h2] at HL
      rw [e0]
      clear h e0 hv h2 hs
      go_enter Try.func71, Try.ntmps71
      go_wp2_with fail
      refine (HD.out _).mono ?_
      rintro e w1 ⟨rfl, hb1⟩
      go_wp2_with fail
      refine (HL.out _).mono ?_
      rintro e w2 ⟨rfl, rfl⟩
      go_wp2
      go_ret
      exact ⟨rfl, hb1⟩
    | true =>
      have e0 : ixd q r s l = good q l := by unfold ixd; rw [h, h2, Bool.true_and, Bool.true_and]
      rw [h2] at HL
      rw [hs, Bool.true_and] at HG
      rw [e0]
      clear h e0 hv h2 hs
      generalize good q l = g at *
      go_enter Try.func71, Try.ntmps71
      go_wp2_with fail
      refine (HD.out _).mono ?_
      rintro e w1 ⟨rfl, hb1⟩
      have hz_hb1 := hb1.size; (try simp at hz_hb1)
      have HB1 := Lib.hid hb1; clear hb1
      go_wp2_with fail
      refine (HL.out _).mono ?_
      rintro e w2 ⟨rfl, rfl⟩
      go_wp2_with fail
      refine (HG.out _ HB1.out).mono ?_
      rintro e w3 ⟨rfl, hb3⟩
      go_wp2
      go_ret
      exact ⟨rfl, HB1.out.trans (hb3.mono HB1.out.size)⟩
set_option maxHeartbeats 2000000 in
/-- impl.validIndexed. -/
theorem validIndexed_yes (m R S : Nat) (v : Value) (l : List Int) (w : World) (hs : isSz (m : Int) = true) (hR : 1 ≤ R) (hR2 : R ≤ m - 1) (hd : dvd (m : Int) (S : Int) = true) (hv : Sl w v l) (hg : good (m : Int) l = true) :
    Calls Try.prog 73 #[.int .i64 m, .int .i64 R, .int .i64 S, v] w fun e w' => ∃ g, e = .returned (.tuple #[polyE (m : Int) (.slice (some ⟨g, 0, none⟩) l.length l.length), .bool true]) ∧ g < w'.heap.size ∧ Els w' g (m : Int) (fun i => l.getD i 0) l.length ∧ Below w.heap.size w w' := by
  have hq := isSz_le (m : Int) hs
  have HP := Lib.hid (fun w' (hb : Below w.heap.size w w') => validPoly_yes (m : Int) v l w' hs (hv.below hb (Nat.le_refl _)) hg)
  have HU := Lib.hid (fun w => dividesUnitsE m (S : Int) w hs)
  rw [hd] at HU
  have hr1 : ¬ (R : Int) < 1 := by omega
  have hr2 : ¬ (m : Int) ≤ (R : Int) := by omega
  clear hs hd hv hg
  generalize (fun i => l.getD i 0) = f at *
  generalize l.length = n at *
  go_enter Try.func73, Try.ntmps73
  go_wp2_with fail
  refine (HP.out _ (by (repeat' (first | (with_reducible assumption) | (with_reducible exact Below.refl _ _) | (with_reducible refine below_drewN ?_ _) | (with_reducible refine Below.drew ?_) | (with_reducible refine Below.alloc ?_ ?_ _) | (with_reducible refine Below.setCell ?_ ?_ _) | (with_reducible refine Below.trans ?_ (Below.mono (by assumption) ?_)) | (with_reducible exact Nat.le_refl _) | (with_reducible assumption) | omega | (simp; omega) | (simp; done))))).mono ?_
  rintro e w1 ⟨g1, rfl, hg1, hk1, he1, hb1⟩
  have hgl := hk1.lt
  have HE1 := Lib.hid he1
  clear he1 hk1
  have hr1' : w1.heap[w.heap.size]? = some pzblk := (hb1.block _ (by simp)).trans (heap_alloc_new w _)
  have HR := Lib.hid hr1'
  obtain ⟨hc1, hf1⟩ := bcell hb1; have hz1 := hb1.size; (try simp at hz1); have HB1 := Lib.hid hb1; clear hb1
  simp at hg1
  go_wp2_with fail
  refine (HU.out _).mono ?_
  rintro e w2 ⟨rfl, hb2⟩
  have hr2' : w2.heap[w.heap.size]? = some pzblk := (hb2.block _ (by simp; omega)).trans ((Below.heap_alloc _ _ _ (by omega)).trans HR.out)
  obtain ⟨r0, r1, r2, r3, rf, rl0⟩ := cells4 hr2'
  have HE2 := Lib.hid (HE1.out.below (w' := w2) (B := w1.heap.size) (by (repeat' (first | (with_reducible assumption) | (with_reducible exact Below.refl _ _) | (with_reducible refine below_drewN ?_ _) | (with_reducible refine Below.drew ?_) | (with_reducible refine Below.alloc ?_ ?_ _) | (with_reducible refine Below.setCell ?_ ?_ _) | (with_reducible refine Below.trans ?_ (Below.mono (by assumption) ?_)) | (with_reducible exact Nat.le_refl _) | (with_reducible assumption) | omega | (simp; omega) | (simp; done)))) hgl)
  obtain ⟨hc2, hf2⟩ := bcell hb2; have hz2 := hb2.size; (try simp at hz2); have HB2 := Lib.hid hb2; clear hb2
  go_wp2_with fail
  refine bodyPost_ret (v := .tuple #[polyE (m : Int) (.slice (some ⟨g1, 0, none⟩) n n), .bool true]) (by simp [results, Try.results73, go_sem, r0, r1, r2, r3]) rfl ⟨g1, rfl, by simp; omega, ?_, ?_⟩
  · exact HE2.out.over hr2' (by omega) (fun k hk => put4_other _ _ _ _ _ hk)
  · have hb1 := HB1.out
    have hb2 := HB2.out
    (repeat' (first | (with_reducible assumption) | (with_reducible exact Below.refl _ _) | (with_reducible refine below_drewN ?_ _) | (with_reducible refine Below.drew ?_) | (with_reducible refine Below.alloc ?_ ?_ _) | (with_reducible refine Below.setCell ?_ ?_ _) | (with_reducible refine Below.trans ?_ (Below.mono (by assumption) ?_)) | (with_reducible exact Nat.le_refl _) | (with_reducible assumption) | omega | (simp; omega) | (simp; done)))
theorem validIndexed_no1 (q r s : Int) (v : Value) (l : List Int) (w : World) (hv : Sl w v l) (hl : l.length ≤ 1048576) (hg : (isSz q && good q l) = false) :
    Calls Try.prog 73 #[.int .i64 q, .int .i64 r, .int .i64 s, v] w fun e w' => e = .returned (.tuple #[polyZ, .bool false]) ∧ Below w.heap.size w w' := by
  have HP := Lib.hid (fun w' (hb : Below w.heap.size w w') => validPoly_no q v l w' (hv.below hb (Nat.le_refl _)) hl hg)
  clear hg hv hl
  go_enter Try.func73, Try.ntmps73
  go_wp2_with fail
  refine (HP.out _ (by (repeat' (first | (with_reducible assumption) | (with_reducible exact Below.refl _ _) | (with_reducible refine below_drewN ?_ _) | (with_reducible refine Below.drew ?_) | (with_reducible refine Below.alloc ?_ ?_ _) | (with_reducible refine Below.setCell ?_ ?_ _) | (with_reducible refine Below.trans ?_ (Below.mono (by assumption) ?_)) | (with_reducible exact Nat.le_refl _) | (with_reducible assumption) | omega | (simp; omega) | (simp; done))))).mono ?_
  rintro e w1 ⟨rfl, hb1⟩
  obtain ⟨hc1, hf1⟩ := bcell hb1; have hz1 := hb1.size; (try simp at hz1); have HB1 := Lib.hid hb1; clear hb1
  have l1 : w.heap.size < w1.heap.size := by omega
  go_wp2_with fail
  have hb1 := HB1.out
  have q0 : w1.heap[w.heap.size]? = some pzblk := (Below.block (B := w.heap.size + 1) (show Below (w.heap.size + 1) (w.alloc pzblk) w1 by (repeat' (first | (with_reducible assumption) | (with_reducible exact Below.refl _ _) | (with_reducible refine below_drewN ?_ _) | (with_reducible refine Below.drew ?_) | (with_reducible refine Below.alloc ?_ ?_ _) | (with_reducible refine Below.setCell ?_ ?_ _) | (with_reducible refine Below.trans ?_ (Below.mono (by assumption) ?_)) | (with_reducible exact Nat.le_refl _) | (with_reducible assumption) | omega | (simp; omega) | (simp; done)))) w.heap.size (by omega)).trans (heap_alloc_new w _)
  obtain ⟨s0, s1, s2, s3, sf, sl⟩ := cells4 q0
  clear q0
  refine bodyPost_ret (v := .tuple #[polyZ, .bool false]) (by simp [results, Try.results73, go_sem, s0, s1, s2, s3, l1]) rfl ⟨rfl, ?_⟩
  (repeat' (first | (with_reducible assumption) | (with_reducible exact Below.refl _ _) | (with_reducible refine below_drewN ?_ _) | (with_reducible refine Below.drew ?_) | (with_reducible refine Below.alloc ?_ ?_ _) | (with_reducible refine Below.setCell ?_ ?_ _) | (with_reducible refine Below.trans ?_ (Below.mono (by assumption) ?_)) | (with_reducible exact Nat.le_refl _) | (with_reducible assumption) | omega | (simp; omega) | (simp; done)))
theorem validIndexed_no2 (m : Nat) (r s : Int) (v : Value) (l : List Int) (w : World) (hs : isSz (m : Int) = true) (hr : r < 1 ∨ 1 ≤ r ∧ (m : Int) ≤ r) (hv : Sl w v l) (hg : good (m : Int) l = true) :
    Calls Try.prog 73 #[.int .i64 m, .int .i64 r, .int .i64 s, v] w fun e w' => e = .returned (.tuple #[polyZ, .bool false]) ∧ Below w.heap.size w w' := by
  have HP := Lib.hid (fun w' (hb : Below w.heap.size w w') => validPoly_yes (m : Int) v l w' hs (hv.below hb (Nat.le_refl _)) hg)
  clear hg hv hs
  generalize (fun i => l.getD i 0) = f at *
  generalize l.length = n at *
  rcases hr with h3 | ⟨h3, h4⟩
  all_goals
    go_enter Try.func73, Try.ntmps73
    go_wp2_with fail
    refine (HP.out _ (by (repeat' (first | (with_reducible assumption) | (with_reducible exact Below.refl _ _) | (with_reducible refine below_drewN ?_ _) | (with_reducible refine Below.drew ?_) | (with_reducible refine Below.alloc ?_ ?_ _) | (with_reducible refine Below.setCell ?_ ?_ _) | (with_reducible refine Below.trans ?_ (Below.mono (by assumption) ?_)) | (with_reducible exact Nat.le_refl _) | (with_reducible assumption) | omega | (simp; omega) | (simp; done))))).mono ?_
    rintro e w1 ⟨g1, rfl, hg1, hk1, he1, hb1⟩
    clear hk1 he1
    obtain ⟨hc1, hf1⟩ := bcell hb1; have hz1 := hb1.size; (try simp at hz1); have HB1 := Lib.hid hb1; clear hb1
    have l1 : w.heap.size < w1.heap.size := by omega
    go_wp2_with fail
    have hb1 := HB1.out
    have q0 : w1.heap[w.heap.size]? = some pzblk := (Below.block (B := w.heap.size + 1) (show Below (w.heap.size + 1) (w.alloc pzblk) w1 by (repeat' (first | (with_reducible assumption) | (with_reducible exact Below.refl _ _) | (with_reducible refine below_drewN ?_ _) | (with_reducible refine Below.drew ?_) | (with_reducible refine Below.alloc ?_ ?_ _) | (with_reducible refine Below.setCell ?_ ?_ _) | (with_reducible refine Below.trans ?_ (Below.mono (by assumption) ?_)) | (with_reducible exact Nat.le_refl _) | (with_reducible assumption) | omega | (simp; omega) | (simp; done)))) w.heap.size (by omega)).trans (heap_alloc_new w _)
    obtain ⟨s0, s1, s2, s3, sf, sl⟩ := cells4 q0
    clear q0
    refine bodyPost_ret (v := .tuple #[polyZ, .bool false]) (by simp [results, Try.results73, go_sem, s0, s1, s2, s3, l1]) rfl ⟨rfl, ?_⟩
    (repeat' (first | (with_reducible assumption) | (with_reducible exact Below.refl _ _) | (with_reducible refine below_drewN ?_ _) | (with_reducible refine Below.drew ?_) | (with_reducible refine Below.alloc ?_ ?_ _) | (with_reducible refine Below.setCell ?_ ?_ _) | (with_reducible refine Below.trans ?_ (Below.mono (by assumption) ?_)) | (with_reducible exact Nat.le_refl _) | (with_reducible assumption) | omega | (simp; omega) | (simp; done)))
set_option maxHeartbeats 1000000 in
theorem validIndexed_no3 (m R : Nat) (s : Int) (v : Value) (l : List Int) (w : World) (hs : isSz (m : Int) = true) (hR : 1 ≤ R) (hR2 : R ≤ m - 1) (hd : dvd (m : Int) s = false) (hv : Sl w v l) (hg : good (m : Int) l = true) :
    Calls Try.prog 73 #[.int .i64 m, .int .i64 R, .int .i64 s, v] w fun e w' => e = .returned (.tuple #[polyZ, .bool false]) ∧ Below w.heap.size w w' := by
  have hq := isSz_le (m : Int) hs
  have HP := Lib.hid (fun w' (hb : Below w.heap.size w w') => validPoly_yes (m : Int) v l w' hs (hv.below hb (Nat.le_refl _)) hg)
  have HU := Lib.hid (fun w => dividesUnitsE m s w hs)
  rw [hd] at HU
  have hr1 : ¬ (R : Int) < 1 := by omega
  have hr2 : ¬ (m : Int) ≤ (R : Int) := by omega
  clear hs hd hv hg
  generalize (fun i => l.getD i 0) = f at *
  generalize l.length = n at *
  go_enter Try.func73, Try.ntmps73
  go_wp2_with fail
  refine (HP.out _ (by (repeat' (first | (with_reducible assumption) | (with_reducible exact Below.refl _ _) | (with_reducible refine below_drewN ?_ _) | (with_reducible refine Below.drew ?_) | (with_reducible refine Below.alloc ?_ ?_ _) | (with_reducible refine Below.setCell ?_ ?_ _) | (with_reducible refine Below.trans ?_ (Below.mono (by assumption) ?_)) | (with_reducible exact Nat.le_refl _) | (with_reducible assumption) | omega | (simp; omega) | (simp; done))))).mono ?_
  rintro e w1 ⟨g1, rfl, hg1, hk1, he1, hb1⟩
  clear hk1 he1
  obtain ⟨hc1, hf1⟩ := bcell hb1; have hz1 := hb1.size; (try simp at hz1); have HB1 := Lib.hid hb1; clear hb1
  have l1 : w.heap.size < w1.heap.size := by omega
  go_wp2_with fail
  refine (HU.out _).mono ?_
  rintro e w2 ⟨rfl, hb2⟩
  obtain ⟨hc2, hf2⟩ := bcell hb2; have hz2 := hb2.size; (try simp at hz2); have HB2 := Lib.hid hb2; clear hb2
  have l2 : w.heap.size < w2.heap.size := by omega
  have l3 : w1.heap.size < w2.heap.size := by omega
  go_wp2_with fail
  have hb1 := HB1.out
  have hb2 := HB2.out
  have q0 : w2.heap[w.heap.size]? = some pzblk := (Below.block (B := w.heap.size + 1) (show Below (w.heap.size + 1) (w.alloc pzblk) w2 by (repeat' (first | (with_reducible assumption) | (with_reducible exact Below.refl _ _) | (with_reducible refine below_drewN ?_ _) | (with_reducible refine Below.drew ?_) | (with_reducible refine Below.alloc ?_ ?_ _) | (with_reducible refine Below.setCell ?_ ?_ _) | (with_reducible refine Below.trans ?_ (Below.mono (by assumption) ?_)) | (with_reducible exact Nat.le_refl _) | (with_reducible assumption) | omega | (simp; omega) | (simp; done)))) w.heap.size (by omega)).trans (heap_alloc_new w _)
  obtain ⟨s0, s1, s2, s3, sf, sl⟩ := cells4 q0
  clear q0
  refine bodyPost_ret (v := .tuple #[polyZ, .bool false]) (by simp [results, Try.results73, go_sem, s0, s1, s2, s3]) rfl ⟨rfl, ?_⟩
  (repeat' (first | (with_reducible assumption) | (with_reducible exact Below.refl _ _) | (with_reducible refine below_drewN ?_ _) | (with_reducible refine Below.drew ?_) | (with_reducible refine Below.alloc ?_ ?_ _) | (with_reducible refine Below.setCell ?_ ?_ _) | (with_reducible refine Below.trans ?_ (Below.mono (by assumption) ?_)) | (with_reducible exact Nat.le_refl _) | (with_reducible assumption) | omega | (simp; omega) | (simp; done)))
theorem validIndexed_no (q r s : Int) (v : Value) (l : List Int) (w : World) (hv : Sl w v l) (hl : l.length ≤ 1048576) (h : ixd q r s l = false) :
    Calls Try.prog 73 #[.int .i64 q, .int .i64 r, .int .i64 s, v] w fun e w' => e = .returned (.tuple #[polyZ, .bool false]) ∧ Below w.heap.size w w' := by
  cases hs : isSz q && good q l with
  | false => exact validIndexed_no1 q r s v l w hv hl hs
  | true =>
    have hs2 := hs
    simp only [Bool.and_eq_true] at hs2
    have hq := isSz_le q hs2.1
    obtain ⟨m, rfl⟩ := size_nat hs2.1
    by_cases h1 : r < 1 ∨ 1 ≤ r ∧ (m : Int) ≤ r
    · exact validIndexed_no2 m r s v l w hs2.1 h1 hv hs2.2
    · obtain ⟨R, rfl⟩ := Int.eq_ofNat_of_zero_le (show 0 ≤ r by omega)
      unfold ixd at h
      rw [hs2.2, decide_eq_true (show (1 : Int) ≤ (R : Int) by omega), decide_eq_true (show (R : Int) ≤ (m : Int) - 1 by omega)] at h
      exact validIndexed_no3 m R s v l w hs2.1 (by omega) (by omega) (by simpa using h) hv hs2.2
/-- The memory of indexed between two rounds. -/
structure TX (w0 wr : World) (q : Int) (v : Value) (c : Nat → Int) (N g : Nat) : Prop where
  hp : wr.heap[w0.heap.size]? = some (pblk q v)
  hr : wr.heap[w0.heap.size + 1]? = some pzblk
  hk : Blk wr g N
  he : Els wr g q c N
  bel : Below w0.heap.size w0 wr
  lt : w0.heap.size + 1 < g
theorem TX.below {w0 wr w' : World} {q : Int} {v : Value} {c : Nat → Int} {N g B : Nat} (h : TX w0 wr q v c N g) (hb : Below B wr w') (hB : wr.heap.size ≤ B) : TX w0 w' q v c N g := by
  have hg := h.hk.lt
  have hl := h.lt
  have hs := h.bel.size
  exact ⟨(hb.block _ (by omega)).trans h.hp, (hb.block _ (by omega)).trans h.hr, h.hk.below hb (by omega), h.he.below hb (by omega), h.bel.trans (hb.mono (by omega)), hl⟩
theorem TX.step {w0 wr : World} {q : Int} {v : Value} {c : Nat → Int} {N g i : Nat} (h : TX w0 wr q v c N g) (hi : i < N) (x : Int) : TX w0 (put7i wr g i q x) q v (upd c i x) N g := by
  have hl := h.lt
  obtain ⟨he, hk⟩ := Els.put x h.hk hi (Nat.le_refl _) h.he
  exact ⟨(put7i_other _ _ _ _ _ _ (by omega)).trans h.hp, (put7i_other _ _ _ _ _ _ (by omega)).trans h.hr, hk, he, put7i_below h.bel _ (by omega) _ _ _, hl⟩
theorem Els.upto {w : World} {g n k : Nat} {q : Int} {f : Nat → Int} (h : Els w g q f n) (hk : k ≤ n) : Els w g q f k := fun j hj => h j (by omega)
set_option maxRecDepth 100000 in
set_option maxHeartbeats 4000000 in
/-- impl.poly.indexed. -/
theorem indexedE (m R S n g1 cap1 : Nat) (f : Nat → Int) (w : World) (h : isSz (m : Int) = true) (hR : R ≤ 15) (hS : 1 ≤ S) (hS2 : S ≤ 15) (hn : n ≤ m) (hg1 : g1 < w.heap.size) (he1 : Els w g1 (m : Int) f n) (hf : ∀ i, El (m : Int) (f i)) :
    Calls Try.prog 74 #[polyE (m : Int) (.slice (some ⟨g1, 0, none⟩) n cap1), .int .i64 R, .int .i64 S] w fun e w' => ∃ v, e = .returned (polyE (m : Int) v) ∧ IsP w' v m (fun a => mulF m (pw m (a : Int) R) (val m f n (pw m (a : Int) S))) ∧ Below w.heap.size w w' := by
  have hq := isSz_le (m : Int) h
  have hSn : S * n ≤ 15 * 16 := Nat.mul_le_mul hS2 (by omega)
  have HZ := Lib.hid (fun w => zerosE (m : Int) (R + S * n) w h (by omega))
  have HRD := Lib.hid (fun v' w' (hs : Se w' v' (m : Int) (ixT R S f n) (R + S * n)) => reducedE m v' (ixT R S f n) (R + S * n) w' h hs (ixT_el h hf n) (by omega))
  have HTB := Lib.hid (tb_ix (r := R) (s := S) (n := n) h hS hf)
  have HE1 := Lib.hid (fun wr (hb : Below w.heap.size w wr) => he1.below hb hg1)
  have HUP : Hid (∀ k, ixT R S f (k + 1) = upd (ixT R S f k) (R + S * k) (f k)) := Lib.hid fun _ => rfl
  have HSK : Hid (∀ k, k < n → S * k + 1 ≤ S * n) := Lib.hid fun k hk => by
    have : S * (k + 1) ≤ S * n := Nat.mul_le_mul_left S hk
    rw [Nat.mul_succ] at this
    omega
  have HC0 : Hid (∀ i, (fun _ : Nat => (0 : Int)) i = ixT R S f 0 i) := Lib.hid fun _ => rfl
  clear he1 hf h
  obtain ⟨P, hP⟩ : ∃ x, S * n = x := ⟨_, rfl⟩
  have hmul : (S : Int) * (n : Int) = (P : Int) := by rw [← hP]; rfl
  obtain ⟨N, hN⟩ : ∃ x, R + P = x := ⟨_, rfl⟩
  have hadd : (R : Int) + (P : Int) = (N : Int) := by omega
  rw [hP] at hSn HZ HRD HTB HSK
  rw [hN] at HZ HRD HTB
  have HPN := Lib.hid hP
  have HNN := Lib.hid hN
  have hNb : N ≤ 260 := by omega
  clear hP hN
  generalize redn m (ixT R S f n) N = K at *
  generalize redR m (ixT R S f n) N = RR at *
  generalize ixT R S f = C at *
  go_enter Try.func74, Try.ntmps74
  go_wp2_with fail
  refine (HZ.out _).mono ?_
  rintro e w1 ⟨gT, rfl, hgT, hk1, hz1, hb1⟩
  simp at hgT
  have htm : TX w w1 (m : Int) (.slice (some ⟨g1, 0, none⟩) n cap1) (C 0) N gT := by
    have hb' : Below (w.heap.size + 2) ((w.alloc (pblk (m : Int) (.slice (some ⟨g1, 0, none⟩) n cap1))).alloc pzblk) w1 := hb1.mono (by simp)
    obtain ⟨t0, t1⟩ := two w (pblk (m : Int) (.slice (some ⟨g1, 0, none⟩) n cap1)) pzblk
    exact ⟨(hb'.block _ (by omega)).trans t0, (hb'.block _ (by omega)).trans t1, hk1, hz1.congr fun i _ => HC0.out i, by (repeat' (first | (with_reducible assumption) | (with_reducible exact Below.refl _ _) | (with_reducible refine below_drewN ?_ _) | (with_reducible refine Below.drew ?_) | (with_reducible refine Below.alloc ?_ ?_ _) | (with_reducible refine Below.setCell ?_ ?_ _) | (with_reducible refine Below.trans ?_ (Below.mono (by assumption) ?_)) | (with_reducible exact Nat.le_refl _) | (with_reducible assumption) | omega | (simp; omega) | (simp; done))), by omega⟩
  have HTM := Lib.hid htm
  clear htm hk1 hz1 hb1
  obtain ⟨p0, p1, p2, p3, pf, pl0⟩ := cells4 HTM.out.hp
  go_wp2_with fail
  clear p0 p1 p2 p3 pf pl0
  go_loopw [8, 23] (fun _ vi wr => ∃ i : Nat, i ≤ n ∧ vi = .int .i64 i ∧ TX w wr (m : Int) (.slice (some ⟨g1, 0, none⟩) n cap1) (C i) N gT) (fun _ vi _ => n - (intOf vi).toNat)
  case atStart => exact ⟨0, Nat.zero_le _, rfl, HTM.out⟩
  case round =>
    obtain ⟨i, hin, rfl, ht⟩ := hrel
    obtain ⟨p0, p1, p2, p3, pf, pl0⟩ := cells4 ht.hp
    obtain ⟨r0, r1, r2, r3, rf, rl0⟩ := cells4 ht.hr
    have hzb := ht.bel.size
    have hgl := ht.hk.lt
    have hgt := ht.lt
    by_cases hlt : i < n
    · obtain ⟨c0, c1, c2, c3, c4, c5, c6⟩ := (HE1.out _ ht.bel) i hlt
      have hg1l : g1 < wr.heap.size := by omega
      have hsk := HSK.out i hlt
      have HUP' := Lib.hid (HUP.out i)
      obtain ⟨p, hp⟩ : ∃ x, S * i = x := ⟨_, rfl⟩
      have hmul2 : (S : Int) * (i : Int) = (p : Int) := by rw [← hp]; rfl
      obtain ⟨z, hz⟩ : ∃ x, R + p = x := ⟨_, rfl⟩
      have hadd2 : (R : Int) + (p : Int) = (z : Int) := by omega
      have hzN : z < N := by have := HNN.out; omega
      have hzN' : (z : Int) < (N : Int) := by omega
      rw [hp, hz] at HUP'
      obtain ⟨e0, e1, e2, e3, e4, e5, e6⟩ := ht.he z hzN
      have fr := ht.hk.free
      have HTT := Lib.hid ht
      have HPP := Lib.hid hp
      have HZZ := Lib.hid hz
      clear ht hp hz r0 r1 r2 r3 rf p0 p1 p2 p3 pf
      generalize f i = u at *
      generalize C i z = y at *
      go_wp2
      go_roundw
      case rel =>
        have t1 := HTT.out.step hzN u
        have t2 := t1.below (w' := (put7i wr gT z (m : Int) u).alloc (eblk (m : Int) u)) ((Below.refl _ _).alloc (Nat.le_refl _) _) (Nat.le_refl _)
        refine ⟨i + 1, by omega, by go_num, ?_⟩
        rw [HUP'.out]
        exact t2
      case measure => (simp [intOf]; try omega)
    · obtain rfl : n = i := by omega
      have HTT := Lib.hid ht; clear ht
      go_wp2_with fail
      refine (HRD.out _ _ ⟨gT, N, rfl, hgl, HTT.out.he⟩).mono ?_
      rintro e w2 ⟨g3, cap3, rfl, hg3, he3, hb2⟩
      have ht2 := HTT.out.below hb2 (Nat.le_refl _)
      clear r0 r1 r2 r3 rf rl0 p0 p1 p2 p3 pf pl0
      obtain ⟨r0, r1, r2, r3, rf, rl0⟩ := cells4 ht2.hr
      have HT2 := Lib.hid ht2; clear ht2
      have HE3 := Lib.hid he3; clear he3
      have HB2 := Lib.hid hb2; clear hb2
      go_wp2_with fail
      refine bodyPost_ret (v := polyE (m : Int) (.slice (some ⟨g3, 0, none⟩) K cap3)) (by simp [results, Try.results74, go_sem, r0, r1, r2, r3]) rfl ⟨_, rfl, ⟨g3, K, cap3, RR, rfl, by simp; omega, ?_, HTB.out⟩, ?_⟩
      · exact HE3.out.over HT2.out.hr (by omega) (fun k hk => put4_other _ _ _ _ _ hk)
      · have hb0 := HT2.out.bel
        (repeat' (first | (with_reducible assumption) | (with_reducible exact Below.refl _ _) | (with_reducible refine below_drewN ?_ _) | (with_reducible refine Below.drew ?_) | (with_reducible refine Below.alloc ?_ ?_ _) | (with_reducible refine Below.setCell ?_ ?_ _) | (with_reducible refine Below.trans ?_ (Below.mono (by assumption) ?_)) | (with_reducible exact Nat.le_refl _) | (with_reducible assumption) | omega | (simp; omega) | (simp; done)))
/-- The table of IndexedPoly. -/
def ixt (m R S : Nat) (f : Nat → Int) (n : Nat) : Nat → Int := fun a => mulF m (pw m (a : Int) R) (val m f n (pw m (a : Int) S))
set_option maxHeartbeats 2000000 in
theorem spec_IndexedPoly_yes (m R S : Nat) (v : Value) (l : List Int) (w : World) (h : isSz (m : Int) = true) (hx : ixd (m : Int) (R : Int) (S : Int) l = true) (hR : R ≤ 15) (hS : S ≤ 15) (hv : Sl w v l) (hg : good (m : Int) l = true) :
    Calls Try.prog 32 #[.int .i64 m, .int .i64 R, .int .i64 S, v] w fun e w' => ∃ v, e = .returned (.tuple #[v, .bool true]) ∧ Row w' w.heap.size v (ptl m (ixt m R S (fun i => l.getD i 0) l.length)) ∧ Below w.heap.size w w' := by
  have hq := isSz_le (m : Int) h
  have htb := tb_good h hg
  have hlen := (good_parts hg).1
  have HX := Lib.hid (kdIndexed_any (m : Int) (R : Int) (S : Int) v l w hv (by omega))
  rw [hx] at HX
  have HK1 := Lib.hid (fun w => kdPower_any m R w h (by omega))
  have HK2 := Lib.hid (fun w => kdPower_any m S w h (by omega))
  have HV := Lib.hid (fun w' (hb : Below w.heap.size w w') => (⟨_, _, (hv.below hb (Nat.le_refl _)).tell, htb⟩ : IsL w' v m (fun a => val m (fun i => l.getD i 0) l.length (a : Int))))
  have HC := Lib.hid (fun v1 v2 w h1 h2 => plComposeT m v1 v2 (fun a => val m (fun i => l.getD i 0) l.length (a : Int)) (fun a => pw m (a : Int) S) w h h1 h2)
  have HT := Lib.hid (fun v1 v2 t u w h1 h2 => plTimesT m v1 v2 t u w h h1 h2)
  have HE : Hid (∀ x, x < m → mulF m (pw m (x : Int) R) (val m (fun i => l.getD i 0) l.length (((pw m (x : Int) S).toNat : Nat) : Int)) = ixt m R S (fun i => l.getD i 0) l.length x) := Lib.hid fun x hx => by
    have := (El.pw h (El.nat hx) S).1
    rw [show (((pw m (x : Int) S).toNat : Nat) : Int) = pw m (x : Int) S by omega]
    rfl
  have HS := Lib.hid h
  obtain ⟨a1, c1, rfl⟩ := hv.form
  clear h hx hg htb hv
  generalize ixt m R S (fun i => l.getD i 0) l.length = T at *
  generalize (fun i => l.getD i 0) = f at *
  generalize l.length = n at *
  go_enter Try.func32, Try.ntmps32
  go_wp2_with fail
  refine HX.out.mono ?_
  rintro e w1 ⟨rfl, hb1⟩
  have hz_hb1 := hb1.size; (try simp at hz_hb1)
  have HB1 := Lib.hid hb1; clear hb1
  go_wp2_with fail
  refine (HK1.out _).mono ?_
  rintro e w2 ⟨v2, rfl, hr2, hb2⟩
  have hz_hb2 := hb2.size; (try simp at hz_hb2)
  have HB2 : Hid (Below w.heap.size w w2) := Lib.hid (by have hb1 := HB1.out; (repeat' (first | (with_reducible assumption) | (with_reducible exact Below.refl _ _) | (with_reducible refine below_drewN ?_ _) | (with_reducible refine Below.drew ?_) | (with_reducible refine Below.alloc ?_ ?_ _) | (with_reducible refine Below.setCell ?_ ?_ _) | (with_reducible refine Below.trans ?_ (Below.mono (by assumption) ?_)) | (with_reducible exact Nat.le_refl _) | (with_reducible assumption) | omega | (simp; omega) | (simp; done))))
  have HR2 := Lib.hid hr2; clear hr2 hb2
  go_wp2_with fail
  refine (HK2.out _).mono ?_
  rintro e w3 ⟨v3, rfl, hr3, hb3⟩
  have hz_hb3 := hb3.size; (try simp at hz_hb3)
  have HB3 : Hid (Below w.heap.size w w3) := Lib.hid (by have hb2 := HB2.out; (repeat' (first | (with_reducible assumption) | (with_reducible exact Below.refl _ _) | (with_reducible refine below_drewN ?_ _) | (with_reducible refine Below.drew ?_) | (with_reducible refine Below.alloc ?_ ?_ _) | (with_reducible refine Below.setCell ?_ ?_ _) | (with_reducible refine Below.trans ?_ (Below.mono (by assumption) ?_)) | (with_reducible exact Nat.le_refl _) | (with_reducible assumption) | omega | (simp; omega) | (simp; done))))
  have HR2b := Lib.hid (HR2.out.below hb3)
  have HR3 := Lib.hid hr3; clear hr3 hb3
  go_wp2_with fail
  refine (HC.out _ _ _ (HV.out _ HB3.out) HR3.out.isL).mono ?_
  rintro e w4 ⟨v4, rfl, hr4, hb4⟩
  have hz_hb4 := hb4.size; (try simp at hz_hb4)
  have HB4 : Hid (Below w.heap.size w w4) := Lib.hid (by have hb3 := HB3.out; (repeat' (first | (with_reducible assumption) | (with_reducible exact Below.refl _ _) | (with_reducible refine below_drewN ?_ _) | (with_reducible refine Below.drew ?_) | (with_reducible refine Below.alloc ?_ ?_ _) | (with_reducible refine Below.setCell ?_ ?_ _) | (with_reducible refine Below.trans ?_ (Below.mono (by assumption) ?_)) | (with_reducible exact Nat.le_refl _) | (with_reducible assumption) | omega | (simp; omega) | (simp; done))))
  have HR2c := Lib.hid (HR2b.out.below hb4)
  have HR4 := Lib.hid hr4; clear hr4 hb4
  go_wp2_with fail
  refine (HT.out _ _ _ _ _ HR2c.out.isL HR4.out.isL).mono ?_
  rintro e w5 ⟨v5, rfl, hr5, hb5⟩
  have hz_hb5 := hb5.size; (try simp at hz_hb5)
  have HB5 : Hid (Below w.heap.size w w5) := Lib.hid (by have hb4 := HB4.out; (repeat' (first | (with_reducible assumption) | (with_reducible exact Below.refl _ _) | (with_reducible refine below_drewN ?_ _) | (with_reducible refine Below.drew ?_) | (with_reducible refine Below.alloc ?_ ?_ _) | (with_reducible refine Below.setCell ?_ ?_ _) | (with_reducible refine Below.trans ?_ (Below.mono (by assumption) ?_)) | (with_reducible exact Nat.le_refl _) | (with_reducible assumption) | omega | (simp; omega) | (simp; done))))
  have HR5 := Lib.hid hr5; clear hr5 hb5
  go_wp2
  go_ret2
  exact ⟨_, rfl, ((HR5.out.like HE.out).row HS.out).mono (by (try simp); omega), HB5.out⟩
theorem spec_IndexedPoly_no (q r s : Int) (v : Value) (l : List Int) (w : World) (hv : Sl w v l) (hl : l.length ≤ 1048576) (h : ixd q r s l = false) :
    Calls Try.prog 32 #[.int .i64 q, .int .i64 r, .int .i64 s, v] w fun e w' => e = .returned (.tuple #[.slice none 0 0, .bool false]) ∧ Below w.heap.size w w' := by
  have HX := Lib.hid (kdIndexed_any q r s v l w hv hl)
  rw [h] at HX
  clear hv h
  go_enter Try.func32, Try.ntmps32
  go_wp2_with fail
  refine HX.out.mono ?_
  rintro e w1 ⟨rfl, hb1⟩
  go_wp2
  go_ret2
  exact ⟨rfl, hb1⟩
theorem impl_IndexedPoly_no (q r s : Int) (v : Value) (l : List Int) (w : World) (hv : Sl w v l) (hl : l.length ≤ 1048576) (h : ixd q r s l = false) :
    Calls Try.prog 34 #[.int .i64 q, .int .i64 r, .int .i64 s, v] w fun e w' => e = .returned (.tuple #[.slice none 0 0, .bool false]) ∧ Below w.heap.size w w' := by
  have HX := Lib.hid (validIndexed_no q r s v l w hv hl h)
  clear hv h
  go_enter Try.func34, Try.ntmps34
  go_wp2_with fail
  refine HX.out.mono ?_
  rintro e w1 ⟨rfl, hb1⟩
  obtain ⟨hc1, hf1⟩ := bcell hb1; have hz1 := hb1.size; (try simp at hz1); have HB1 := Lib.hid hb1; clear hb1
  go_wp2
  go_ret2
  have hb1 := HB1.out
  exact ⟨rfl, by (repeat' (first | (with_reducible assumption) | (with_reducible exact Below.refl _ _) | (with_reducible refine below_drewN ?_ _) | (with_reducible refine Below.drew ?_) | (with_reducible refine Below.alloc ?_ ?_ _) | (with_reducible refine Below.setCell ?_ ?_ _) | (with_reducible refine Below.trans ?_ (Below.mono (by assumption) ?_)) | (with_reducible exact Nat.le_refl _) | (with_reducible assumption) | omega | (simp; omega) | (simp; done)))⟩
set_option maxHeartbeats 2000000 in
theorem impl_IndexedPoly_yes (m R S : Nat) (v : Value) (l : List Int) (w : World) (h : isSz (m : Int) = true) (hR1 : 1 ≤ R) (hR : R ≤ m - 1) (hS1 : 1 ≤ S) (hS : S ≤ m - 1) (hd : dvd (m : Int) (S : Int) = true) (hv : Sl w v l) (hg : good (m : Int) l = true) :
    Calls Try.prog 34 #[.int .i64 m, .int .i64 R, .int .i64 S, v] w fun e w' => ∃ v, e = .returned (.tuple #[v, .bool true]) ∧ Row w' w.heap.size v (ptl m (ixt m R S (fun i => l.getD i 0) l.length)) ∧ Below w.heap.size w w' := by
  have hq := isSz_le (m : Int) h
  have hlen := (good_parts hg).1
  have HX := Lib.hid (validIndexed_yes m R S v l w h hR1 hR hd hv hg)
  have HI := Lib.hid (fun g w' (hg' : g < w'.heap.size) (he : Els w' g (m : Int) (fun i => l.getD i 0) l.length) => indexedE m R S l.length g l.length (fun i => l.getD i 0) w' h (by omega) hS1 (by omega) (by omega) hg' he (all_el h (good_parts hg).2))
  have HN := Lib.hid (fun v t w hv => numbersT m v t w h hv)
  have HE : Hid (∀ x, (fun a : Nat => mulF m (pw m (a : Int) R) (val m (fun i => l.getD i 0) l.length (pw m (a : Int) S))) x = ixt m R S (fun i => l.getD i 0) l.length x) := Lib.hid fun _ => rfl
  clear h hd hv hg
  generalize ixt m R S (fun i => l.getD i 0) l.length = T at *
  generalize (fun i => l.getD i 0) = f at *
  generalize l.length = n at *
  go_enter Try.func34, Try.ntmps34
  go_wp2_with fail
  refine HX.out.mono ?_
  rintro e w1 ⟨g1, rfl, hgl1, he1, hb1⟩
  have HE1 := Lib.hid he1; clear he1
  obtain ⟨hc1, hf1⟩ := bcell hb1; have hz1 := hb1.size; (try simp at hz1); have HB1 := Lib.hid hb1; clear hb1
  go_wp2_with fail
  refine (HI.out g1 _ (by simp; omega) (HE1.out.below (B := w1.heap.size) (by (repeat' (first | (with_reducible assumption) | (with_reducible exact Below.refl _ _) | (with_reducible refine below_drewN ?_ _) | (with_reducible refine Below.drew ?_) | (with_reducible refine Below.alloc ?_ ?_ _) | (with_reducible refine Below.setCell ?_ ?_ _) | (with_reducible refine Below.trans ?_ (Below.mono (by assumption) ?_)) | (with_reducible exact Nat.le_refl _) | (with_reducible assumption) | omega | (simp; omega) | (simp; done)))) hgl1)).mono ?_
  rintro e w2 ⟨v2, rfl, hv2, hb2⟩
  have HV2 := Lib.hid hv2; clear hv2
  obtain ⟨hc2, hf2⟩ := bcell hb2; have hz2 := hb2.size; (try simp at hz2); have HB2 := Lib.hid hb2; clear hb2
  go_wp2_with fail
  refine (HN.out _ _ _ (HV2.out.like fun x _ => HE.out x)).mono ?_
  rintro e w3 ⟨v3, rfl, hr3, hb3⟩
  have HR3 := Lib.hid hr3; clear hr3
  obtain ⟨hc3, hf3⟩ := bcell hb3; have hz3 := hb3.size; (try simp at hz3); have HB3 := Lib.hid hb3; clear hb3
  go_wp2
  go_ret2
  have hb1 := HB1.out
  have hb2 := HB2.out
  have hb3 := HB3.out
  exact ⟨_, rfl, HR3.out.mono (by (try simp); omega), by (repeat' (first | (with_reducible assumption) | (with_reducible exact Below.refl _ _) | (with_reducible refine below_drewN ?_ _) | (with_reducible refine Below.drew ?_) | (with_reducible refine Below.alloc ?_ ?_ _) | (with_reducible refine Below.setCell ?_ ?_ _) | (with_reducible refine Below.trans ?_ (Below.mono (by assumption) ?_)) | (with_reducible exact Nat.le_refl _) | (with_reducible assumption) | omega | (simp; omega) | (simp; done)))⟩
theorem key_IndexedPoly (q r s : Int) (l_h : List Int) (b_h : l_h.length ≤ 1048576) : ∃ (x : List Int) (o : Bool), x.length ≤ 1048576 ∧ (∀ (w : World) (v_h : Value) (_ : Sl w v_h l_h), Calls Try.prog 32 #[.int .i64 q, .int .i64 r, .int .i64 s, v_h] w fun e w' => ∃ v, e = .returned (.tuple #[v, .bool o]) ∧ Row w' w.heap.size v x ∧ Below w.heap.size w w') ∧
      (∀ (w : World) (v_h : Value) (_ : Sl w v_h l_h), Calls Try.prog 34 #[.int .i64 q, .int .i64 r, .int .i64 s, v_h] w fun e w' => ∃ v, e = .returned (.tuple #[v, .bool o]) ∧ Row w' w.heap.size v x ∧ Below w.heap.size w w') := by
  cases h : ixd q r s l_h with
  | false => exact ⟨[], false, by simp, fun w vf hf => (spec_IndexedPoly_no q r s vf l_h w hf b_h h).mono fun _ _ ⟨he, hb⟩ => ⟨_, he, Row.nil _ _, hb⟩, fun w vf hf => (impl_IndexedPoly_no q r s vf l_h w hf b_h h).mono fun _ _ ⟨he, hb⟩ => ⟨_, he, Row.nil _ _, hb⟩⟩
  | true =>
    obtain ⟨m, R, S, rfl, rfl, rfl, hs, hR1, hR, hS1, hS, _, hg, hd⟩ := ixd_nat h
    have hq := isSz_le (m : Int) hs
    exact ⟨_, true, by have := ptl_len m (ixt m R S (fun i => l_h.getD i 0) l_h.length); omega, fun w vf hf => spec_IndexedPoly_yes m R S vf l_h w hs h (by omega) (by omega) hf hg, fun w vf hf => impl_IndexedPoly_yes m R S vf l_h w hs hR1 hR hS1 hS hd hf hg⟩
set_option maxRecDepth 100000 in
set_option maxHeartbeats 4000000 in
/-- laws.FnExactIndexedPoly. -/
theorem walk_FnExactIndexedPoly (q : Int) (r : Int) (s : Int) (a_h : Option Addr) (n_h c_h : Nat) (z_h : List Int) (w : World) (_h_q : (Lit.int .i64 q).wf = true) (_h_r : (Lit.int .i64 r).wf = true) (_h_s : (Lit.int .i64 s).wf = true) (h_h : IsRow .i64 w a_h n_h c_h z_h) :
    Calls Try.prog 11 #[.int .i64 q, .int .i64 r, .int .i64 s, .slice a_h n_h c_h] w fun e w' => e = .returned (.bool true) ∧ Below w.heap.size w w' := by
  clear _h_q
  clear _h_r
  clear _h_s
  obtain ⟨hs_h, hl_h, _⟩ := h_h.sl
  generalize z_h.take n_h = l_h at *
  clear h_h
  subst hl_h
  by_cases b_h : l_h.length ≤ 1048576
  rotate_left
  · have hn_h : (1048576 : Int) < (l_h.length : Int) := by omega
    go_enter Try.func11, Try.ntmps11
    go_wp2
    go_ret
    exact ⟨rfl, Below.refl _ _⟩
  have hn_h : ¬ (1048576 : Int) < (l_h.length : Int) := by omega
  obtain ⟨r, o, hr, k1, k2⟩ := key_IndexedPoly q r s l_h b_h
  have K1 := Lib.hid k1; clear k1
  have K2 := Lib.hid k2; clear k2
  have HS_h := Lib.hid hs_h; clear hs_h
  have HB0 : Hid (Below w.heap.size w w) := Lib.hid (Below.refl _ _)
  go_enter Try.func11, Try.ntmps11
  go_wp2_with fail
  refine (toIntS_any _ l_h _ (HS_h.out.below HB0.out (Nat.le_refl _)) b_h).mono ?_
  rintro e w1 ⟨v_s_h, rfl, hrw1, hbw1⟩
  have hzw1 : w.heap.size ≤ w1.heap.size := hbw1.size
  have HBw1 : Hid (Below w.heap.size w w1) := Lib.hid (HB0.out.trans (hbw1.mono HB0.out.size))
  have hww1 := HBw1.out.size
  clear hbw1 HB0
  have R_s_h_w1 := Lib.hid hrw1; clear hrw1
  have lt_s_h : Hid (∀ g, v_s_h.ownBlock = some g → w.heap.size ≤ g ∧ g < w1.heap.size) := Lib.hid R_s_h_w1.out.lt
  go_wp2_with fail
  refine (K1.out _ v_s_h R_s_h_w1.out.sl).mono ?_
  rintro e w2 ⟨v_sp, rfl, hrw2, hbw2⟩
  have hzw2 : w1.heap.size ≤ w2.heap.size := hbw2.size
  have R_s_h_w2 := Lib.hid (R_s_h_w1.out.below hbw2)
  clear R_s_h_w1
  have HBw2 : Hid (Below w.heap.size w w2) := Lib.hid (HBw1.out.trans (hbw2.mono HBw1.out.size))
  have hww2 := HBw2.out.size
  clear hbw2 HBw1
  have R_sp_w2 := Lib.hid hrw2; clear hrw2
  have lt_sp : Hid (∀ g, v_sp.ownBlock = some g → w1.heap.size ≤ g ∧ g < w2.heap.size) := Lib.hid R_sp_w2.out.lt
  clear R_s_h_w2 lt_s_h
  go_wp2_with fail
  refine (toIntS_any _ l_h _ (HS_h.out.below HBw2.out (Nat.le_refl _)) b_h).mono ?_
  rintro e w3 ⟨v_x_h, rfl, hrw3, hbw3⟩
  have hzw3 : w2.heap.size ≤ w3.heap.size := hbw3.size
  have R_sp_w3 := Lib.hid (R_sp_w2.out.below hbw3)
  clear R_sp_w2
  have HBw3 : Hid (Below w.heap.size w w3) := Lib.hid (HBw2.out.trans (hbw3.mono HBw2.out.size))
  have hww3 := HBw3.out.size
  clear hbw3 HBw2
  have R_x_h_w3 := Lib.hid hrw3; clear hrw3
  have lt_x_h : Hid (∀ g, v_x_h.ownBlock = some g → w2.heap.size ≤ g ∧ g < w3.heap.size) := Lib.hid R_x_h_w3.out.lt
  go_wp2_with fail
  refine (K2.out _ v_x_h R_x_h_w3.out.sl).mono ?_
  rintro e w4 ⟨v_im, rfl, hrw4, hbw4⟩
  have hzw4 : w3.heap.size ≤ w4.heap.size := hbw4.size
  have R_sp_w4 := Lib.hid (R_sp_w3.out.below hbw4)
  clear R_sp_w3
  have R_x_h_w4 := Lib.hid (R_x_h_w3.out.below hbw4)
  clear R_x_h_w3
  have HBw4 : Hid (Below w.heap.size w w4) := Lib.hid (HBw3.out.trans (hbw4.mono HBw3.out.size))
  have hww4 := HBw4.out.size
  clear hbw4 HBw3
  have R_im_w4 := Lib.hid hrw4; clear hrw4
  have lt_im : Hid (∀ g, v_im.ownBlock = some g → w3.heap.size ≤ g ∧ g < w4.heap.size) := Lib.hid R_im_w4.out.lt
  go_wp2_with fail
  refine (eq_same v_im v_sp r _ _ _ R_im_w4.out R_sp_w4.out (by omega)).mono ?_
  rintro e w5 ⟨rfl, hbw5⟩
  have hzw5 : w4.heap.size ≤ w5.heap.size := hbw5.size
  have R_sp_w5 := Lib.hid (R_sp_w4.out.below hbw5)
  clear R_sp_w4
  have R_x_h_w5 := Lib.hid (R_x_h_w4.out.below hbw5)
  clear R_x_h_w4
  have R_im_w5 := Lib.hid (R_im_w4.out.below hbw5)
  clear R_im_w4
  have HBw5 : Hid (Below w.heap.size w w5) := Lib.hid (HBw4.out.trans (hbw5.mono HBw4.out.size))
  have hww5 := HBw5.out.size
  clear hbw5 HBw4
  go_wp2_with fail
  refine (toIntS_any _ l_h _ (HS_h.out.below HBw5.out (Nat.le_refl _)) b_h).mono ?_
  rintro e w6 ⟨v_y_h, rfl, hrw6, hbw6⟩
  have hzw6 : w5.heap.size ≤ w6.heap.size := hbw6.size
  have R_sp_w6 := Lib.hid (R_sp_w5.out.below hbw6)
  clear R_sp_w5
  have R_x_h_w6 := Lib.hid (R_x_h_w5.out.below hbw6)
  clear R_x_h_w5
  have R_im_w6 := Lib.hid (R_im_w5.out.below hbw6)
  clear R_im_w5
  have HBw6 : Hid (Below w.heap.size w w6) := Lib.hid (HBw5.out.trans (hbw6.mono HBw5.out.size))
  have hww6 := HBw6.out.size
  clear hbw6 HBw5
  have R_y_h_w6 := Lib.hid hrw6; clear hrw6
  have lt_y_h : Hid (∀ g, v_y_h.ownBlock = some g → w5.heap.size ≤ g ∧ g < w6.heap.size) := Lib.hid R_y_h_w6.out.lt
  go_wp2_with fail
  refine (eq_same v_x_h v_y_h l_h _ _ _ R_x_h_w6.out R_y_h_w6.out (by omega)).mono ?_
  rintro e w7 ⟨rfl, hbw7⟩
  have hzw7 : w6.heap.size ≤ w7.heap.size := hbw7.size
  have R_sp_w7 := Lib.hid (R_sp_w6.out.below hbw7)
  clear R_sp_w6
  have R_x_h_w7 := Lib.hid (R_x_h_w6.out.below hbw7)
  clear R_x_h_w6
  have R_im_w7 := Lib.hid (R_im_w6.out.below hbw7)
  clear R_im_w6
  have R_y_h_w7 := Lib.hid (R_y_h_w6.out.below hbw7)
  clear R_y_h_w6
  have HBw7 : Hid (Below w.heap.size w w7) := Lib.hid (HBw6.out.trans (hbw7.mono HBw6.out.size))
  have hww7 := HBw7.out.size
  clear hbw7 HBw6
  clear R_y_h_w7 lt_y_h
  go_wp2_with fail
  refine (mark_any v_x_h l_h _ (1) _ R_x_h_w7.out (by omega) (by omega) (by omega)).mono ?_
  rintro e w8 ⟨rfl, hrw8, hgw8⟩
  have hzw8 : w7.heap.size ≤ w8.heap.size := hgw8.size
  have R_sp_w8 := Lib.hid (R_sp_w7.out.keep (w' := w8) fun g hg => hgw8.block g (R_sp_w7.out.lt g hg).2 fun e => by have h1 := lt_sp.out g hg; have h2 := lt_x_h.out g e.symm; omega)
  clear R_sp_w7
  have R_im_w8 := Lib.hid (R_im_w7.out.keep (w' := w8) fun g hg => hgw8.block g (R_im_w7.out.lt g hg).2 fun e => by have h1 := lt_im.out g hg; have h2 := lt_x_h.out g e.symm; omega)
  clear R_im_w7
  have HBw8 : Hid (Below w.heap.size w w8) := Lib.hid (Below.grown HBw7.out hgw8 (by omega) (fun g e => by have h2 := lt_x_h.out g e; omega))
  have hww8 := HBw8.out.size
  have R_x_h_w8 := Lib.hid hrw8
  clear hrw8 hgw8 HBw7 R_x_h_w7
  clear R_x_h_w8 lt_x_h
  have hpos : ¬ (1 + (l_h.length : Int)) < (0 : Int) := by omega
  go_wp2_with fail
  refine (eq_same v_im v_sp r _ _ _ R_im_w8.out R_sp_w8.out (by omega)).mono ?_
  rintro e w9 ⟨rfl, hbw9⟩
  have hzw9 : w8.heap.size ≤ w9.heap.size := hbw9.size
  have R_sp_w9 := Lib.hid (R_sp_w8.out.below hbw9)
  clear R_sp_w8
  have R_im_w9 := Lib.hid (R_im_w8.out.below hbw9)
  clear R_im_w8
  have HBw9 : Hid (Below w.heap.size w w9) := Lib.hid (HBw8.out.trans (hbw9.mono HBw8.out.size))
  have hww9 := HBw9.out.size
  clear hbw9 HBw8
  go_wp2_with fail
  refine (mark_any v_im r _ (1) _ R_im_w9.out (by omega) (by omega) (by omega)).mono ?_
  rintro e w10 ⟨rfl, hrw10, hgw10⟩
  have hzw10 : w9.heap.size ≤ w10.heap.size := hgw10.size
  have R_sp_w10 := Lib.hid (R_sp_w9.out.keep (w' := w10) fun g hg => hgw10.block g (R_sp_w9.out.lt g hg).2 fun e => by have h1 := lt_sp.out g hg; have h2 := lt_im.out g e.symm; omega)
  clear R_sp_w9
  have HBw10 : Hid (Below w.heap.size w w10) := Lib.hid (Below.grown HBw9.out hgw10 (by omega) (fun g e => by have h2 := lt_im.out g e; omega))
  have hww10 := HBw10.out.size
  have R_im_w10 := Lib.hid hrw10
  clear hrw10 hgw10 HBw9 R_im_w9
  go_wp2_with fail
  refine (held_any v_im r.length _ (1) _ R_im_w10.out (by omega) (by omega) (by omega)).mono ?_
  rintro e wx1 ⟨rfl, rfl⟩
  go_wp2_with fail
  refine (toIntS_any _ l_h _ (HS_h.out.below HBw10.out (Nat.le_refl _)) b_h).mono ?_
  rintro e w11 ⟨v_t_h, rfl, hrw11, hbw11⟩
  have hzw11 : w10.heap.size ≤ w11.heap.size := hbw11.size
  have R_sp_w11 := Lib.hid (R_sp_w10.out.below hbw11)
  clear R_sp_w10
  have R_im_w11 := Lib.hid (R_im_w10.out.below hbw11)
  clear R_im_w10
  have HBw11 : Hid (Below w.heap.size w w11) := Lib.hid (HBw10.out.trans (hbw11.mono HBw10.out.size))
  have hww11 := HBw11.out.size
  clear hbw11 HBw10
  have R_t_h_w11 := Lib.hid hrw11; clear hrw11
  have lt_t_h : Hid (∀ g, v_t_h.ownBlock = some g → w10.heap.size ≤ g ∧ g < w11.heap.size) := Lib.hid R_t_h_w11.out.lt
  go_wp2_with fail
  refine (K2.out _ v_t_h R_t_h_w11.out.sl).mono ?_
  rintro e w12 ⟨v_im2, rfl, hrw12, hbw12⟩
  have hzw12 : w11.heap.size ≤ w12.heap.size := hbw12.size
  have R_sp_w12 := Lib.hid (R_sp_w11.out.below hbw12)
  clear R_sp_w11
  have R_im_w12 := Lib.hid (R_im_w11.out.below hbw12)
  clear R_im_w11
  have R_t_h_w12 := Lib.hid (R_t_h_w11.out.below hbw12)
  clear R_t_h_w11
  have HBw12 : Hid (Below w.heap.size w w12) := Lib.hid (HBw11.out.trans (hbw12.mono HBw11.out.size))
  have hww12 := HBw12.out.size
  clear hbw12 HBw11
  have R_im2_w12 := Lib.hid hrw12; clear hrw12
  have lt_im2 : Hid (∀ g, v_im2.ownBlock = some g → w11.heap.size ≤ g ∧ g < w12.heap.size) := Lib.hid R_im2_w12.out.lt
  clear R_t_h_w12 lt_t_h
  go_wp2_with fail
  refine (eq_same v_im2 v_sp r _ _ _ R_im2_w12.out R_sp_w12.out (by omega)).mono ?_
  rintro e w13 ⟨rfl, hbw13⟩
  have hzw13 : w12.heap.size ≤ w13.heap.size := hbw13.size
  have R_sp_w13 := Lib.hid (R_sp_w12.out.below hbw13)
  clear R_sp_w12
  have R_im_w13 := Lib.hid (R_im_w12.out.below hbw13)
  clear R_im_w12
  have R_im2_w13 := Lib.hid (R_im2_w12.out.below hbw13)
  clear R_im2_w12
  have HBw13 : Hid (Below w.heap.size w w13) := Lib.hid (HBw12.out.trans (hbw13.mono HBw12.out.size))
  have hww13 := HBw13.out.size
  clear hbw13 HBw12
  go_wp2_with fail
  refine (held_any v_im r.length _ (1) _ R_im_w13.out (by omega) (by omega) (by omega)).mono ?_
  rintro e wx2 ⟨rfl, rfl⟩
  go_wp2
  go_ret
  exact ⟨rfl, HBw13.out⟩
end Go.Proofs.Ytiefbhkigngegaa
