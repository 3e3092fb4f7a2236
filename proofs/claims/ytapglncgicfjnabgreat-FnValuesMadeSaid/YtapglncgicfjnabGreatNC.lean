/- PowerPermutes, DicksonPermutes, CountPermutingPowers and DicksonAt, of both, by contracts; the walks of their laws. -/
import Derived.Test.YtapglncgicfjnabGreatNA
namespace Go.Proofs.YtapglncgicfjnabGreat
open Go.RowKit
theorem ret_bb {a b o p : Bool} (h : a = b) (h2 : o = p) : Ending.returned (.tuple #[.bool a, .bool o]) = .returned (.tuple #[.bool b, .bool p]) := by rw [h, h2]
theorem okE_of {k : Nat} (h : k ≤ 400) : okE (k : Int) = true := by
  simp only [okE, Bool.and_eq_true, decide_eq_true_eq]
  omega
theorem size_nat {q : Int} (h : isSz q = true) : ∃ m : Nat, q = (m : Int) := ⟨q.toNat, by have := isSz_le q h; omega⟩
theorem asked_yes (m k : Nat) (w : World) (h : isSz (m : Int) = true) (hk : k ≤ 400) :
    Calls Tryz.prog 95 #[.int .i64 m, .int .i64 k] w fun e w' => e = .returned (.bool true) ∧ Below w.heap.size w w' := by
  have := kdAsked_any (m : Int) (k : Int) w
  rw [h, okE_of hk] at this
  exact this
theorem asked_no (q n : Int) (w : World) (h : (isSz q && okE n) = false) :
    Calls Tryz.prog 95 #[.int .i64 q, .int .i64 n] w fun e w' => e = .returned (.bool false) ∧ Below w.heap.size w w' := by
  have := kdAsked_any q n w
  rw [h] at this
  exact this
theorem isExp_yes (k : Nat) (w : World) (hk : k ≤ 400) :
    Calls Tryz.prog 93 #[.int .i64 k] w fun e w' => e = .returned (.bool true) ∧ Below w.heap.size w w' := by
  have := isExponentE (k : Int) w
  rw [okE_of hk] at this
  exact this
set_option maxHeartbeats 1000000 in
theorem spec_PowerPermutes_yes (m k : Nat) (w : World) (h : isSz (m : Int) = true) (hk : k ≤ 400) :
    Calls Tryz.prog 24 #[.int .i64 m, .int .i64 k] w fun e w' => e = .returned (.tuple #[.bool (npm k (m - 1)), .bool true]) ∧ Below w.heap.size w w' := by
  have hq := isSz_le (m : Int) h
  have HA := Lib.hid (fun w => asked_yes m k w h hk)
  have hs : (m : Int) - 1 = ((m - 1 : Nat) : Int) := by omega
  have hb : m - 1 ≤ 15 := by omega
  clear h
  by_cases h1 : 1 ≤ k
  · have HG := Lib.hid (fun w => peGcd_any (m - 1) k w (by omega) (by omega))
    rw [npm_pos h1]
    generalize Nat.gcd k (m - 1) = d at *
    generalize m - 1 = r at *
    have h1' : (0 : Int) < (k : Int) := by omega
    have HD := Lib.hid (one_eq d)
    have HD' := Lib.hid (one_eq' d)
    go_enter Tryz.func24, Tryz.ntmps24
    go_wp2_with fail
    refine (HA.out _).mono ?_
    rintro e w1 ⟨rfl, hb1⟩
    have hz_hb1 := hb1.size; (try simp at hz_hb1)
    go_wp2_with fail
    refine (HG.out _).mono ?_
    rintro e w2 ⟨rfl, hb2⟩
    have hz_hb2 := hb2.size; (try simp at hz_hb2)
    go_wp2
    go_ret2
    exact ⟨by first | exact ret_bb HD.out rfl | exact ret_bb HD.out.symm rfl | exact ret_bb HD'.out rfl | exact ret_bb HD'.out.symm rfl, by (repeat' (first | (with_reducible assumption) | (with_reducible exact Below.refl _ _) | (with_reducible refine below_drewN ?_ _) | (with_reducible refine Below.drew ?_) | (with_reducible refine Below.alloc ?_ ?_ _) | (with_reducible refine Below.setCell ?_ ?_ _) | (with_reducible refine Below.trans ?_ (Below.mono (by assumption) ?_)) | (with_reducible exact Nat.le_refl _) | (with_reducible assumption) | omega | (simp; omega) | (simp; done)))⟩
  · obtain rfl : k = 0 := by omega
    rw [npm_zero]
    go_enter Tryz.func24, Tryz.ntmps24
    go_wp2_with fail
    refine (HA.out _).mono ?_
    rintro e w1 ⟨rfl, hb1⟩
    go_wp2
    go_ret2
    exact ⟨rfl, hb1⟩
theorem spec_PowerPermutes_no (q n : Int) (w : World) (h : (isSz q && okE n) = false) :
    Calls Tryz.prog 24 #[.int .i64 q, .int .i64 n] w fun e w' => e = .returned (.tuple #[.bool false, .bool false]) ∧ Below w.heap.size w w' := by
  have HA := Lib.hid (fun w => asked_no q n w h)
  clear h
  go_enter Tryz.func24, Tryz.ntmps24
  go_wp2_with fail
  refine (HA.out _).mono ?_
  rintro e w1 ⟨rfl, hb1⟩
  go_wp2
  go_ret2
  exact ⟨rfl, hb1⟩
set_option maxHeartbeats 1000000 in
theorem impl_PowerPermutes_yes (m k : Nat) (w : World) (h : isSz (m : Int) = true) (hk : k ≤ 400) :
    Calls Tryz.prog 23 #[.int .i64 m, .int .i64 k] w fun e w' => e = .returned (.tuple #[.bool (npm k (m - 1)), .bool true]) ∧ Below w.heap.size w w' := by
  have hq := isSz_le (m : Int) h
  have HF := Lib.hid (fun w => fieldOf_yes (m : Int) w h)
  have HX := Lib.hid (fun w => isExp_yes k w hk)
  have HP := Lib.hid (fun w => powersPermuteE m w h)
  have HC := Lib.hid (fun b w hc => noDivClo k (m - 1) b w hk (by omega) hc)
  clear h
  generalize npm k (m - 1) = r at *
  go_enter Tryz.func23, Tryz.ntmps23
  go_wp2_with fail
  refine (HF.out _).mono ?_
  rintro e w1 ⟨rfl, hb1⟩
  obtain ⟨hc1, hf1⟩ := bcell hb1; have hz1 := hb1.size; (try simp at hz1); have HB1 := Lib.hid hb1; clear hb1
  go_wp2_with fail
  refine (HX.out _).mono ?_
  rintro e w2 ⟨rfl, hb2⟩
  obtain ⟨hc2, hf2⟩ := bcell hb2; have hz2 := hb2.size; (try simp at hz2); have HB2 := Lib.hid hb2; clear hb2
  go_wp2_with fail
  refine (HP.out _).mono ?_
  rintro e w3 ⟨v3, rfl, hv, hb3⟩
  obtain ⟨b, rfl, hbl, hcb⟩ := hv
  have HCB := Lib.hid hcb; clear hcb
  obtain ⟨hc3, hf3⟩ := bcell hb3; have hz3 := hb3.size; (try simp at hz3); have HB3 := Lib.hid hb3; clear hb3
  go_wp2_with fail
  refine (HC.out _ _ HCB.out).mono ?_
  rintro e w4 ⟨rfl, hb4⟩
  obtain ⟨hc4, hf4⟩ := bcell hb4; have hz4 := hb4.size; (try simp at hz4); have HB4 := Lib.hid hb4; clear hb4
  go_wp2
  go_ret2
  have hb1 := HB1.out
  have hb2 := HB2.out
  have hb3 := HB3.out
  have hb4 := HB4.out
  exact ⟨rfl, by (repeat' (first | (with_reducible assumption) | (with_reducible exact Below.refl _ _) | (with_reducible refine below_drewN ?_ _) | (with_reducible refine Below.drew ?_) | (with_reducible refine Below.alloc ?_ ?_ _) | (with_reducible refine Below.setCell ?_ ?_ _) | (with_reducible refine Below.trans ?_ (Below.mono (by assumption) ?_)) | (with_reducible exact Nat.le_refl _) | (with_reducible assumption) | omega | (simp; omega) | (simp; done)))⟩
theorem impl_PowerPermutes_no (q n : Int) (w : World) (h : (isSz q && okE n) = false) :
    Calls Tryz.prog 23 #[.int .i64 q, .int .i64 n] w fun e w' => e = .returned (.tuple #[.bool false, .bool false]) ∧ Below w.heap.size w w' := by
  cases hs : isSz q with
  | false =>
    have HF := Lib.hid (fun w => fieldOf_no q w hs)
    clear h hs
    go_enter Tryz.func23, Tryz.ntmps23
    go_wp2_with fail
    refine (HF.out _).mono ?_
    rintro e w1 ⟨rfl, hb1⟩
    obtain ⟨hc1, hf1⟩ := bcell hb1; have hz1 := hb1.size; (try simp at hz1); have HB1 := Lib.hid hb1; clear hb1
    go_wp2
    go_ret2
    have hb1 := HB1.out
    exact ⟨rfl, by (repeat' (first | (with_reducible assumption) | (with_reducible exact Below.refl _ _) | (with_reducible refine below_drewN ?_ _) | (with_reducible refine Below.drew ?_) | (with_reducible refine Below.alloc ?_ ?_ _) | (with_reducible refine Below.setCell ?_ ?_ _) | (with_reducible refine Below.trans ?_ (Below.mono (by assumption) ?_)) | (with_reducible exact Nat.le_refl _) | (with_reducible assumption) | omega | (simp; omega) | (simp; done)))⟩
  | true =>
    have HF := Lib.hid (fun w => fieldOf_yes q w hs)
    have HX := Lib.hid (fun w => isExponentE n w)
    rw [hs, Bool.true_and] at h
    rw [h] at HX
    clear h hs
    go_enter Tryz.func23, Tryz.ntmps23
    go_wp2_with fail
    refine (HF.out _).mono ?_
    rintro e w1 ⟨rfl, hb1⟩
    obtain ⟨hc1, hf1⟩ := bcell hb1; have hz1 := hb1.size; (try simp at hz1); have HB1 := Lib.hid hb1; clear hb1
    go_wp2_with fail
    refine (HX.out _).mono ?_
    rintro e w2 ⟨rfl, hb2⟩
    obtain ⟨hc2, hf2⟩ := bcell hb2; have hz2 := hb2.size; (try simp at hz2); have HB2 := Lib.hid hb2; clear hb2
    go_wp2
    go_ret2
    have hb1 := HB1.out
    have hb2 := HB2.out
    exact ⟨rfl, by (repeat' (first | (with_reducible assumption) | (with_reducible exact Below.refl _ _) | (with_reducible refine below_drewN ?_ _) | (with_reducible refine Below.drew ?_) | (with_reducible refine Below.alloc ?_ ?_ _) | (with_reducible refine Below.setCell ?_ ?_ _) | (with_reducible refine Below.trans ?_ (Below.mono (by assumption) ?_)) | (with_reducible exact Nat.le_refl _) | (with_reducible assumption) | omega | (simp; omega) | (simp; done)))⟩
theorem asked_nat {q n : Int} (h : (isSz q && okE n) = true) : ∃ m k : Nat, q = (m : Int) ∧ n = (k : Int) ∧ isSz (m : Int) = true ∧ k ≤ 400 := by
  rw [Bool.and_eq_true] at h
  obtain ⟨m, rfl⟩ := size_nat h.1
  obtain ⟨k, rfl, hk⟩ := okE_nat h.2
  exact ⟨m, k, rfl, rfl, h.1, hk⟩
theorem key_PowerPermutes (q n : Int) : ∃ (r o : Bool), (∀ (w : World), Calls Tryz.prog 24 #[.int .i64 q, .int .i64 n] w fun e w' => e = .returned (.tuple #[.bool r, .bool o]) ∧ Below w.heap.size w w') ∧
      (∀ (w : World), Calls Tryz.prog 23 #[.int .i64 q, .int .i64 n] w fun e w' => e = .returned (.tuple #[.bool r, .bool o]) ∧ Below w.heap.size w w') := by
  cases h : (isSz q && okE n) with
  | false => exact ⟨false, false, fun w => spec_PowerPermutes_no q n w h, fun w => impl_PowerPermutes_no q n w h⟩
  | true =>
    obtain ⟨m, k, rfl, rfl, hs, hk⟩ := asked_nat h
    exact ⟨_, true, fun w => spec_PowerPermutes_yes m k w hs hk, fun w => impl_PowerPermutes_yes m k w hs hk⟩
/-- How many of 1..k have no divisor in common with r. -/
def cpc (r : Nat) : Nat → Nat
  | 0 => 0
  | k + 1 => cpc r k + if npm (k + 1) r then 1 else 0
theorem cpc_le (r : Nat) : ∀ k, cpc r k ≤ k
  | 0 => Nat.le_refl _
  | k + 1 => by
    have := cpc_le r k
    rw [cpc]
    split <;> omega
theorem cpc_yes {r k : Nat} (h : npm (k + 1) r = true) : cpc r (k + 1) = cpc r k + 1 := by rw [cpc, if_pos h]
theorem cpc_no {r k : Nat} (h : npm (k + 1) r = false) : cpc r (k + 1) = cpc r k := by rw [cpc, if_neg (by rw [h]; decide), Nat.add_zero]
set_option maxHeartbeats 2000000 in
theorem spec_CountPermutingPowers_yes (m : Nat) (w : World) (h : isSz (m : Int) = true) :
    Calls Tryz.prog 28 #[.int .i64 m] w fun e w' => e = .returned (.tuple #[.int .i64 (cpc (m - 1) (m - 1) : Nat), .bool true]) ∧ Below w.heap.size w w' := by
  have hq := isSz_le (m : Int) h
  have HS := Lib.hid (fun w => fdSize_any (m : Int) w)
  rw [h] at HS
  have hs : (m : Int) - 1 = ((m - 1 : Nat) : Int) := by omega
  have hb : m - 1 ≤ 15 := by omega
  have HR : Hid (m = m - 1 + 1) := Lib.hid (by omega)
  have HL := Lib.hid (cpc_le (m - 1))
  have HY := Lib.hid (fun k (h : npm (k + 1) (m - 1) = true) => cpc_yes h)
  have HN := Lib.hid (fun k (h : npm (k + 1) (m - 1) = false) => cpc_no h)
  have HG := Lib.hid (fun k w (hk : k ≤ 400) => peGcd_any (m - 1) k w (by omega) (by omega))
  have HP : Hid (∀ k, npm (k + 1) (m - 1) = isOne (Nat.gcd (k + 1) (m - 1))) := Lib.hid fun k => npm_pos (by omega)
  clear h
  generalize m - 1 = r at *
  go_enter Tryz.func28, Tryz.ntmps28
  go_wp2_with fail
  refine (HS.out _).mono ?_
  rintro e w1 ⟨rfl, hb1⟩
  have HB1 := Lib.hid hb1; clear hb1
  go_wp2_with fail
  go_loopw [4, 5] (fun vc vn wr => ∃ k : Nat, k ≤ r ∧ vn = .int .i64 (k + 1 : Nat) ∧ vc = .int .i64 (cpc r k : Nat) ∧ Below w.heap.size w wr) (fun _ vn _ => m - (intOf vn).toNat)
  case atStart => exact ⟨0, Nat.zero_le _, rfl, rfl, HB1.out⟩
  case round =>
    obtain ⟨k, hk, rfl, rfl, hbw⟩ := hrel
    have HBW := Lib.hid hbw; clear hbw
    obtain ⟨k1, hk1⟩ : ∃ x, x = k + 1 := ⟨_, rfl⟩
    have hkl := HL.out k
    by_cases hlt : k < r
    · have HGC := Lib.hid (fun w => HG.out (k + 1) w (by omega))
      have HPC := HP.out k
      have hy := HY.out k
      have hn := HN.out k
      have hl1 := HL.out (k + 1)
      rw [← hk1] at HGC HPC hy hn hl1 ⊢
      have HK1 := Lib.hid hk1
      have hmk : (k1 : Int) < (m : Int) := by have := HR.out; omega
      have hkb : k1 ≤ 16 := by omega
      generalize hd : Nat.gcd k1 r = d at *
      have HD := Lib.hid hd
      clear hd hk1
      by_cases h1 : d = 1
      · have e1 : ((d : Int) == 1) = true := by subst h1; rfl
        have e2 : decide ((d : Int) = 1) = true := by subst h1; rfl
        have hc := hy (by rw [HPC]; exact decide_eq_true h1)
        have HCC := Lib.hid hc
        clear hy hn HPC hc
        go_wp2_with fail
        refine (HGC.out _).mono ?_
        rintro e w2 ⟨rfl, hb2⟩
        have HB2 := Lib.hid (HBW.out.trans (hb2.mono HBW.out.size))
        clear hb2
        generalize cpc r k = c at *
        go_wp2
        go_roundw
        case rel => exact ⟨k1, by have hK := HK1.out; omega, by first | rfl | go_num, by rw [HCC.out]; first | rfl | go_num, HB2.out⟩
        case measure => have hK := HK1.out; simp [intOf]; omega
      · have e1 : ((d : Int) == 1) = false := by simp; omega
        have e2 : ¬ (d : Int) = 1 := by omega
        have hc := hn (by rw [HPC]; exact decide_eq_false h1)
        have HCC := Lib.hid hc
        clear hy hn HPC hc
        go_wp2_with fail
        refine (HGC.out _).mono ?_
        rintro e w2 ⟨rfl, hb2⟩
        have HB2 := Lib.hid (HBW.out.trans (hb2.mono HBW.out.size))
        clear hb2
        generalize cpc r k = c at *
        go_wp2
        go_roundw
        case rel => exact ⟨k1, by have hK := HK1.out; omega, by first | rfl | go_num, by rw [HCC.out], HB2.out⟩
        case measure => have hK := HK1.out; simp [intOf]; omega
    · obtain rfl : r = k := by omega
      have hmk : ¬ ((r + 1 : Nat) : Int) < (m : Int) := by have := HR.out; omega
      rw [← hk1] at hmk ⊢
      clear hk1
      go_wp2
      go_ret2
      exact ⟨rfl, HBW.out⟩
theorem spec_CountPermutingPowers_no (q : Int) (w : World) (h : isSz q = false) :
    Calls Tryz.prog 28 #[.int .i64 q] w fun e w' => e = .returned (.tuple #[.int .i64 0, .bool false]) ∧ Below w.heap.size w w' := by
  have HS := Lib.hid (fun w => fdSize_any q w)
  rw [h] at HS
  clear h
  go_enter Tryz.func28, Tryz.ntmps28
  go_wp2_with fail
  refine (HS.out _).mono ?_
  rintro e w1 ⟨rfl, hb1⟩
  go_wp2
  go_ret2
  exact ⟨rfl, hb1⟩
theorem impl_CountPermutingPowers_no (q : Int) (w : World) (h : isSz q = false) :
    Calls Tryz.prog 27 #[.int .i64 q] w fun e w' => e = .returned (.tuple #[.int .i64 0, .bool false]) ∧ Below w.heap.size w w' := by
  have HF := Lib.hid (fun w => fieldOf_no q w h)
  clear h
  go_enter Tryz.func27, Tryz.ntmps27
  go_wp2_with fail
  refine (HF.out _).mono ?_
  rintro e w1 ⟨rfl, hb1⟩
  obtain ⟨hc1, hf1⟩ := bcell hb1; have hz1 := hb1.size; (try simp at hz1); have HB1 := Lib.hid hb1; clear hb1
  go_wp2
  go_ret2
  have hb1 := HB1.out
  exact ⟨rfl, by (repeat' (first | (with_reducible assumption) | (with_reducible exact Below.refl _ _) | (with_reducible refine below_drewN ?_ _) | (with_reducible refine Below.drew ?_) | (with_reducible refine Below.alloc ?_ ?_ _) | (with_reducible refine Below.setCell ?_ ?_ _) | (with_reducible refine Below.trans ?_ (Below.mono (by assumption) ?_)) | (with_reducible exact Nat.le_refl _) | (with_reducible assumption) | omega | (simp; omega) | (simp; done)))⟩
set_option maxHeartbeats 2000000 in
theorem impl_CountPermutingPowers_yes (m : Nat) (w : World) (h : isSz (m : Int) = true) :
    Calls Tryz.prog 27 #[.int .i64 m] w fun e w' => e = .returned (.tuple #[.int .i64 (cpc (m - 1) (m - 1) : Nat), .bool true]) ∧ Below w.heap.size w w' := by
  have hq := isSz_le (m : Int) h
  have HF := Lib.hid (fun w => fieldOf_yes (m : Int) w h)
  have HP := Lib.hid (fun w => powersPermuteE m w h)
  have hb : m - 1 ≤ 15 := by omega
  have HR : Hid (m = m - 1 + 1) := Lib.hid (by omega)
  have HL := Lib.hid (cpc_le (m - 1))
  have HY := Lib.hid (fun k (h : npm (k + 1) (m - 1) = true) => cpc_yes h)
  have HN := Lib.hid (fun k (h : npm (k + 1) (m - 1) = false) => cpc_no h)
  have HC := Lib.hid (fun k b w (hk : k ≤ 400) hc => noDivClo k (m - 1) b w hk (by omega) hc)
  clear h
  generalize m - 1 = r at *
  go_enter Tryz.func27, Tryz.ntmps27
  go_wp2_with fail
  refine (HF.out _).mono ?_
  rintro e w1 ⟨rfl, hb1⟩
  obtain ⟨hc1, hf1⟩ := bcell hb1; have hz1 := hb1.size; (try simp at hz1); have HB1 := Lib.hid hb1; clear hb1
  go_wp2_with fail
  refine (HP.out _).mono ?_
  rintro e w3 ⟨v3, rfl, hv, hb3⟩
  obtain ⟨b, rfl, hbl, hcb⟩ := hv
  have hbt : w.heap.size ≤ w3.heap.size := by have := hb3.size; simp at this; omega
  have HB3 : Hid (Below w.heap.size w w3) := Lib.hid (by have hb1 := HB1.out; (repeat' (first | (with_reducible assumption) | (with_reducible exact Below.refl _ _) | (with_reducible refine below_drewN ?_ _) | (with_reducible refine Below.drew ?_) | (with_reducible refine Below.alloc ?_ ?_ _) | (with_reducible refine Below.setCell ?_ ?_ _) | (with_reducible refine Below.trans ?_ (Below.mono (by assumption) ?_)) | (with_reducible exact Nat.le_refl _) | (with_reducible assumption) | omega | (simp; omega) | (simp; done))))
  have HCB := Lib.hid (fun w' (hb : Below w3.heap.size w3 w') => (hb.cell (p := ⟨b, 0, none⟩) hbl).trans hcb)
  clear hcb hb3
  go_wp2_with fail
  go_loopw [7, 8] (fun vc vn wr => ∃ k : Nat, k ≤ r ∧ vn = .int .i64 (k + 1 : Nat) ∧ vc = .int .i64 (cpc r k : Nat) ∧ Below w3.heap.size w3 wr) (fun _ vn _ => m - (intOf vn).toNat)
  case atStart => exact ⟨0, Nat.zero_le _, rfl, rfl, Below.refl _ _⟩
  case round =>
    obtain ⟨k, hk, rfl, rfl, hbw⟩ := hrel
    have HBW := Lib.hid hbw; clear hbw
    obtain ⟨k1, hk1⟩ : ∃ x, x = k + 1 := ⟨_, rfl⟩
    have hkl := HL.out k
    by_cases hlt : k < r
    · have HGC := Lib.hid (fun w hc => HC.out (k + 1) b w (by omega) hc)
      have hy := HY.out k
      have hn := HN.out k
      have hl1 := HL.out (k + 1)
      rw [← hk1] at HGC hy hn hl1 ⊢
      have HK1 := Lib.hid hk1
      have hmk : (k1 : Int) < (m : Int) := by have := HR.out; omega
      have hkb : k1 ≤ 16 := by omega
      clear hk1
      cases hp : npm k1 r with
      | true =>
        rw [hp] at HGC
        have HCC := Lib.hid (hy hp)
        clear hy hn hp
        go_wp2_with fail
        refine (HGC.out _ (HCB.out _ HBW.out)).mono ?_
        rintro e w2 ⟨rfl, hb2⟩
        have HB2 := Lib.hid (HBW.out.trans (hb2.mono HBW.out.size))
        clear hb2
        generalize cpc r k = c at *
        go_wp2
        go_roundw
        case rel => exact ⟨k1, by have hK := HK1.out; omega, by first | rfl | go_num, by rw [HCC.out]; first | rfl | go_num, HB2.out⟩
        case measure => have hK := HK1.out; simp [intOf]; omega
      | false =>
        rw [hp] at HGC
        have HCC := Lib.hid (hn hp)
        clear hy hn hp
        go_wp2_with fail
        refine (HGC.out _ (HCB.out _ HBW.out)).mono ?_
        rintro e w2 ⟨rfl, hb2⟩
        have HB2 := Lib.hid (HBW.out.trans (hb2.mono HBW.out.size))
        clear hb2
        generalize cpc r k = c at *
        go_wp2
        go_roundw
        case rel => exact ⟨k1, by have hK := HK1.out; omega, by first | rfl | go_num, by rw [HCC.out], HB2.out⟩
        case measure => have hK := HK1.out; simp [intOf]; omega
    · obtain rfl : r = k := by omega
      have hmk : ¬ ((r + 1 : Nat) : Int) < (m : Int) := by have := HR.out; omega
      rw [← hk1] at hmk ⊢
      clear hk1
      go_wp2
      go_ret2
      exact ⟨rfl, HB3.out.trans (HBW.out.mono (by omega))⟩
theorem key_CountPermutingPowers (q : Int) : ∃ (r : Int) (o : Bool), (∀ (w : World), Calls Tryz.prog 28 #[.int .i64 q] w fun e w' => e = .returned (.tuple #[.int .i64 r, .bool o]) ∧ Below w.heap.size w w') ∧
      (∀ (w : World), Calls Tryz.prog 27 #[.int .i64 q] w fun e w' => e = .returned (.tuple #[.int .i64 r, .bool o]) ∧ Below w.heap.size w w') := by
  cases h : isSz q with
  | false => exact ⟨0, false, fun w => spec_CountPermutingPowers_no q w h, fun w => impl_CountPermutingPowers_no q w h⟩
  | true =>
    obtain ⟨m, rfl⟩ := size_nat h
    exact ⟨_, true, fun w => spec_CountPermutingPowers_yes m w h, fun w => impl_CountPermutingPowers_yes m w h⟩
theorem inE_nat {q a : Int} (h : inE q a = true) : ∃ m : Nat, q = (m : Int) ∧ isSz (m : Int) = true ∧ El (m : Int) a := by
  obtain ⟨hs, a0, a1⟩ := inE_yes h
  obtain ⟨m, rfl⟩ := size_nat hs
  exact ⟨m, rfl, hs, a0, a1⟩
set_option maxRecDepth 100000 in
set_option maxHeartbeats 2000000 in
theorem spec_DicksonPermutes_yes (m k : Nat) (a : Int) (w : World) (ha : inE (m : Int) a = true) (hk : k ≤ 400) :
    Calls Tryz.prog 35 #[.int .i64 m, .int .i64 k, .int .i64 a] w fun e w' => e = .returned (.tuple #[.bool (npm k (dkm m a)), .bool true]) ∧ Below w.heap.size w w' := by
  obtain ⟨h, a0, a1⟩ := inE_yes ha
  have hq := isSz_le (m : Int) h
  have HA := Lib.hid (fun w => asked_yes m k w h hk)
  have HI := Lib.hid (fun w => fdIn_any (m : Int) a w)
  rw [ha] at HI
  have hdl := dkm_le h a
  have hmm : 1 ≤ m * m ∧ m * m ≤ 256 := ⟨Nat.mul_pos (by omega) (by omega), Nat.mul_le_mul (show m ≤ 16 by omega) (show m ≤ 16 by omega)⟩
  obtain ⟨p, hp⟩ : ∃ x, m * m = x := ⟨_, rfl⟩
  have hmul : (m : Int) * (m : Int) = (p : Int) := by rw [← hp]; rfl
  rw [hp] at hmm
  by_cases h0 : a = 0
  · subst h0
    have hE : dkm m 0 = m - 1 := if_pos rfl
    have hs : (m : Int) - 1 = ((m - 1 : Nat) : Int) := by omega
    rw [hE] at hdl ⊢
    clear h ha hp hmm hE
    by_cases h1 : 1 ≤ k
    · have HG := Lib.hid (fun w => peGcd_any (m - 1) k w (by omega) (by omega))
      rw [npm_pos h1]
      generalize Nat.gcd k (m - 1) = d at *
      generalize m - 1 = r at *
      have h1' : (0 : Int) < (k : Int) := by omega
      have HD := Lib.hid (one_eq d)
      have HD' := Lib.hid (one_eq' d)
      go_enter Tryz.func35, Tryz.ntmps35
      go_wp2_with fail
      refine (HA.out _).mono ?_
      rintro e w1 ⟨rfl, hb1⟩
      have hz_hb1 := hb1.size; (try simp at hz_hb1)
      go_wp2_with fail
      refine (HI.out _).mono ?_
      rintro e w3 ⟨rfl, hb3⟩
      have hz_hb3 := hb3.size; (try simp at hz_hb3)
      go_wp2_with fail
      refine (HG.out _).mono ?_
      rintro e w2 ⟨rfl, hb2⟩
      have hz_hb2 := hb2.size; (try simp at hz_hb2)
      go_wp2
      go_ret2
      exact ⟨by first | exact ret_bb HD.out rfl | exact ret_bb HD.out.symm rfl | exact ret_bb HD'.out rfl | exact ret_bb HD'.out.symm rfl, by (repeat' (first | (with_reducible assumption) | (with_reducible exact Below.refl _ _) | (with_reducible refine below_drewN ?_ _) | (with_reducible refine Below.drew ?_) | (with_reducible refine Below.alloc ?_ ?_ _) | (with_reducible refine Below.setCell ?_ ?_ _) | (with_reducible refine Below.trans ?_ (Below.mono (by assumption) ?_)) | (with_reducible exact Nat.le_refl _) | (with_reducible assumption) | omega | (simp; omega) | (simp; done)))⟩
    · obtain rfl : k = 0 := by omega
      rw [npm_zero]
      go_enter Tryz.func35, Tryz.ntmps35
      go_wp2_with fail
      refine (HA.out _).mono ?_
      rintro e w1 ⟨rfl, hb1⟩
      have hz_hb1 := hb1.size; (try simp at hz_hb1)
      go_wp2_with fail
      refine (HI.out _).mono ?_
      rintro e w3 ⟨rfl, hb3⟩
      have hz_hb3 := hb3.size; (try simp at hz_hb3)
      go_wp2
      go_ret2
      exact ⟨rfl, by (repeat' (first | (with_reducible assumption) | (with_reducible exact Below.refl _ _) | (with_reducible refine below_drewN ?_ _) | (with_reducible refine Below.drew ?_) | (with_reducible refine Below.alloc ?_ ?_ _) | (with_reducible refine Below.setCell ?_ ?_ _) | (with_reducible refine Below.trans ?_ (Below.mono (by assumption) ?_)) | (with_reducible exact Nat.le_refl _) | (with_reducible assumption) | omega | (simp; omega) | (simp; done)))⟩
  · have hE : dkm m a = p - 1 := by rw [← hp]; exact if_neg h0
    have hs : (p : Int) - 1 = ((p - 1 : Nat) : Int) := by omega
    have ht : (a == 0) = false := by simpa using h0
    rw [hE] at hdl ⊢
    clear h ha hp hE
    by_cases h1 : 1 ≤ k
    · have HG := Lib.hid (fun w => peGcd_any (p - 1) k w (by omega) (by omega))
      rw [npm_pos h1]
      generalize Nat.gcd k (p - 1) = d at *
      generalize p - 1 = r at *
      have h1' : (0 : Int) < (k : Int) := by omega
      have HD := Lib.hid (one_eq d)
      have HD' := Lib.hid (one_eq' d)
      go_enter Tryz.func35, Tryz.ntmps35
      go_wp2_with fail
      refine (HA.out _).mono ?_
      rintro e w1 ⟨rfl, hb1⟩
      have hz_hb1 := hb1.size; (try simp at hz_hb1)
      go_wp2_with fail
      refine (HI.out _).mono ?_
      rintro e w3 ⟨rfl, hb3⟩
      have hz_hb3 := hb3.size; (try simp at hz_hb3)
      go_wp2_with fail
      refine (HG.out _).mono ?_
      rintro e w2 ⟨rfl, hb2⟩
      have hz_hb2 := hb2.size; (try simp at hz_hb2)
      go_wp2
      go_ret2
      exact ⟨by first | exact ret_bb HD.out rfl | exact ret_bb HD.out.symm rfl | exact ret_bb HD'.out rfl | exact ret_bb HD'.out.symm rfl, by (repeat' (first | (with_reducible assumption) | (with_reducible exact Below.refl _ _) | (with_reducible refine below_drewN ?_ _) | (with_reducible refine Below.drew ?_) | (with_reducible refine Below.alloc ?_ ?_ _) | (with_reducible refine Below.setCell ?_ ?_ _) | (with_reducible refine Below.trans ?_ (Below.mono (by assumption) ?_)) | (with_reducible exact Nat.le_refl _) | (with_reducible assumption) | omega | (simp; omega) | (simp; done)))⟩
    · obtain rfl : k = 0 := by omega
      rw [npm_zero]
      go_enter Tryz.func35, Tryz.ntmps35
      go_wp2_with fail
      refine (HA.out _).mono ?_
      rintro e w1 ⟨rfl, hb1⟩
      have hz_hb1 := hb1.size; (try simp at hz_hb1)
      go_wp2_with fail
      refine (HI.out _).mono ?_
      rintro e w3 ⟨rfl, hb3⟩
      have hz_hb3 := hb3.size; (try simp at hz_hb3)
      go_wp2
      go_ret2
      exact ⟨rfl, by (repeat' (first | (with_reducible assumption) | (with_reducible exact Below.refl _ _) | (with_reducible refine below_drewN ?_ _) | (with_reducible refine Below.drew ?_) | (with_reducible refine Below.alloc ?_ ?_ _) | (with_reducible refine Below.setCell ?_ ?_ _) | (with_reducible refine Below.trans ?_ (Below.mono (by assumption) ?_)) | (with_reducible exact Nat.le_refl _) | (with_reducible assumption) | omega | (simp; omega) | (simp; done)))⟩
theorem spec_DicksonPermutes_no (q n a : Int) (w : World) (h : ((isSz q && okE n) && inE q a) = false) :
    Calls Tryz.prog 35 #[.int .i64 q, .int .i64 n, .int .i64 a] w fun e w' => e = .returned (.tuple #[.bool false, .bool false]) ∧ Below w.heap.size w w' := by
  have HA := Lib.hid (fun w => kdAsked_any q n w)
  have HI := Lib.hid (fun w => fdIn_any q a w)
  cases h1 : (isSz q && okE n) with
  | false =>
    rw [h1] at HA
    clear h h1
    go_enter Tryz.func35, Tryz.ntmps35
    go_wp2_with fail
    refine (HA.out _).mono ?_
    rintro e w1 ⟨rfl, hb1⟩
    go_wp2
    go_ret2
    exact ⟨rfl, hb1⟩
  | true =>
    rw [h1, Bool.true_and] at h
    rw [h1] at HA
    rw [h] at HI
    clear h h1
    go_enter Tryz.func35, Tryz.ntmps35
    go_wp2_with fail
    refine (HA.out _).mono ?_
    rintro e w1 ⟨rfl, hb1⟩
    have hz_hb1 := hb1.size; (try simp at hz_hb1)
    go_wp2_with fail
    refine (HI.out _).mono ?_
    rintro e w2 ⟨rfl, hb2⟩
    go_wp2
    go_ret2
    exact ⟨rfl, by (repeat' (first | (with_reducible assumption) | (with_reducible exact Below.refl _ _) | (with_reducible refine below_drewN ?_ _) | (with_reducible refine Below.drew ?_) | (with_reducible refine Below.alloc ?_ ?_ _) | (with_reducible refine Below.setCell ?_ ?_ _) | (with_reducible refine Below.trans ?_ (Below.mono (by assumption) ?_)) | (with_reducible exact Nat.le_refl _) | (with_reducible assumption) | omega | (simp; omega) | (simp; done)))⟩
set_option maxHeartbeats 1000000 in
theorem impl_DicksonPermutes_yes (m k : Nat) (a : Int) (w : World) (ha : inE (m : Int) a = true) (hk : k ≤ 400) :
    Calls Tryz.prog 34 #[.int .i64 m, .int .i64 k, .int .i64 a] w fun e w' => e = .returned (.tuple #[.bool (npm k (dkm m a)), .bool true]) ∧ Below w.heap.size w w' := by
  obtain ⟨h, a0, a1⟩ := inE_yes ha
  have hq := isSz_le (m : Int) h
  have HF := Lib.hid (fun w => elementOf_yes (m : Int) a w ha)
  have HX := Lib.hid (fun w => isExp_yes k w hk)
  have HP := Lib.hid (fun w => dicksonsPermuteE m a w h ⟨a0, a1⟩)
  have HC := Lib.hid (fun b w hc => noDivClo k (dkm m a) b w hk (dkm_le h a) hc)
  clear h ha
  generalize npm k (dkm m a) = r at *
  generalize dkm m a = d at *
  go_enter Tryz.func34, Tryz.ntmps34
  go_wp2_with fail
  refine (HF.out _).mono ?_
  rintro e w1 ⟨rfl, hb1⟩
  obtain ⟨hc1, hf1⟩ := bcell hb1; have hz1 := hb1.size; (try simp at hz1); have HB1 := Lib.hid hb1; clear hb1
  go_wp2_with fail
  refine (HX.out _).mono ?_
  rintro e w2 ⟨rfl, hb2⟩
  obtain ⟨hc2, hf2⟩ := bcell hb2; have hz2 := hb2.size; (try simp at hz2); have HB2 := Lib.hid hb2; clear hb2
  go_wp2_with fail
  refine (HP.out _).mono ?_
  rintro e w3 ⟨v3, rfl, hv, hb3⟩
  obtain ⟨b, rfl, hbl, hcb⟩ := hv
  have HCB := Lib.hid hcb; clear hcb
  obtain ⟨hc3, hf3⟩ := bcell hb3; have hz3 := hb3.size; (try simp at hz3); have HB3 := Lib.hid hb3; clear hb3
  go_wp2_with fail
  refine (HC.out _ _ HCB.out).mono ?_
  rintro e w4 ⟨rfl, hb4⟩
  obtain ⟨hc4, hf4⟩ := bcell hb4; have hz4 := hb4.size; (try simp at hz4); have HB4 := Lib.hid hb4; clear hb4
  go_wp2
  go_ret2
  have hb1 := HB1.out
  have hb2 := HB2.out
  have hb3 := HB3.out
  have hb4 := HB4.out
  exact ⟨rfl, by (repeat' (first | (with_reducible assumption) | (with_reducible exact Below.refl _ _) | (with_reducible refine below_drewN ?_ _) | (with_reducible refine Below.drew ?_) | (with_reducible refine Below.alloc ?_ ?_ _) | (with_reducible refine Below.setCell ?_ ?_ _) | (with_reducible refine Below.trans ?_ (Below.mono (by assumption) ?_)) | (with_reducible exact Nat.le_refl _) | (with_reducible assumption) | omega | (simp; omega) | (simp; done)))⟩
/-- What the first answer is, where nothing is told. -/
theorem inE_only {q n a : Int} (h : ((isSz q && okE n) && inE q a) = false) (ha : inE q a = true) : okE n = false := by
  rw [ha, Bool.and_true, (inE_yes ha).1, Bool.true_and] at h
  exact h
theorem impl_DicksonPermutes_no (q n a : Int) (w : World) (h : ((isSz q && okE n) && inE q a) = false) :
    Calls Tryz.prog 34 #[.int .i64 q, .int .i64 n, .int .i64 a] w fun e w' => e = .returned (.tuple #[.bool false, .bool false]) ∧ Below w.heap.size w w' := by
  cases ha : inE q a with
  | false =>
    have HF := Lib.hid (fun w => elementOf_no q a w ha)
    clear h ha
    go_enter Tryz.func34, Tryz.ntmps34
    go_wp2_with fail
    refine (HF.out _).mono ?_
    rintro e w1 ⟨rfl, hb1⟩
    obtain ⟨hc1, hf1⟩ := bcell hb1; have hz1 := hb1.size; (try simp at hz1); have HB1 := Lib.hid hb1; clear hb1
    go_wp2
    go_ret2
    have hb1 := HB1.out
    exact ⟨rfl, by (repeat' (first | (with_reducible assumption) | (with_reducible exact Below.refl _ _) | (with_reducible refine below_drewN ?_ _) | (with_reducible refine Below.drew ?_) | (with_reducible refine Below.alloc ?_ ?_ _) | (with_reducible refine Below.setCell ?_ ?_ _) | (with_reducible refine Below.trans ?_ (Below.mono (by assumption) ?_)) | (with_reducible exact Nat.le_refl _) | (with_reducible assumption) | omega | (simp; omega) | (simp; done)))⟩
  | true =>
    have HF := Lib.hid (fun w => elementOf_yes q a w ha)
    have HX := Lib.hid (fun w => isExponentE n w)
    rw [inE_only h ha] at HX
    clear h ha
    go_enter Tryz.func34, Tryz.ntmps34
    go_wp2_with fail
    refine (HF.out _).mono ?_
    rintro e w1 ⟨rfl, hb1⟩
    obtain ⟨hc1, hf1⟩ := bcell hb1; have hz1 := hb1.size; (try simp at hz1); have HB1 := Lib.hid hb1; clear hb1
    go_wp2_with fail
    refine (HX.out _).mono ?_
    rintro e w2 ⟨rfl, hb2⟩
    obtain ⟨hc2, hf2⟩ := bcell hb2; have hz2 := hb2.size; (try simp at hz2); have HB2 := Lib.hid hb2; clear hb2
    go_wp2
    go_ret2
    have hb1 := HB1.out
    have hb2 := HB2.out
    exact ⟨rfl, by (repeat' (first | (with_reducible assumption) | (with_reducible exact Below.refl _ _) | (with_reducible refine below_drewN ?_ _) | (with_reducible refine Below.drew ?_) | (with_reducible refine Below.alloc ?_ ?_ _) | (with_reducible refine Below.setCell ?_ ?_ _) | (with_reducible refine Below.trans ?_ (Below.mono (by assumption) ?_)) | (with_reducible exact Nat.le_refl _) | (with_reducible assumption) | omega | (simp; omega) | (simp; done)))⟩
theorem asked2_nat {q n a : Int} (h : ((isSz q && okE n) && inE q a) = true) : ∃ m k : Nat, q = (m : Int) ∧ n = (k : Int) ∧ inE (m : Int) a = true ∧ k ≤ 400 := by
  rw [Bool.and_eq_true] at h
  obtain ⟨m, k, rfl, rfl, _, hk⟩ := asked_nat h.1
  exact ⟨m, k, rfl, rfl, h.2, hk⟩
theorem key_DicksonPermutes (q n a : Int) : ∃ (r o : Bool), (∀ (w : World), Calls Tryz.prog 35 #[.int .i64 q, .int .i64 n, .int .i64 a] w fun e w' => e = .returned (.tuple #[.bool r, .bool o]) ∧ Below w.heap.size w w') ∧
      (∀ (w : World), Calls Tryz.prog 34 #[.int .i64 q, .int .i64 n, .int .i64 a] w fun e w' => e = .returned (.tuple #[.bool r, .bool o]) ∧ Below w.heap.size w w') := by
  cases h : ((isSz q && okE n) && inE q a) with
  | false => exact ⟨false, false, fun w => spec_DicksonPermutes_no q n a w h, fun w => impl_DicksonPermutes_no q n a w h⟩
  | true =>
    obtain ⟨m, k, rfl, rfl, hs, hk⟩ := asked2_nat h
    exact ⟨_, true, fun w => spec_DicksonPermutes_yes m k a w hs hk, fun w => impl_DicksonPermutes_yes m k a w hs hk⟩
end Go.Proofs.YtapglncgicfjnabGreat
