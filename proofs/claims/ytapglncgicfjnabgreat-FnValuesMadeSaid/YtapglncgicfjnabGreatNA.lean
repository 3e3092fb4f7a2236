/- Greatest common divisors; closures that tell conditions; PowerPermutes, CountPermutingPowers and DicksonPermutes, of both, by contracts. -/
import Derived.Test.YtapglncgicfjnabGreatKG
namespace Go.Proofs.YtapglncgicfjnabGreat
open Go.RowKit
theorem gcd_step (a b : Nat) : Nat.gcd a b = Nat.gcd b (a % b) := by
  rw [Nat.gcd_comm a b, Nat.gcd_rec b a, Nat.gcd_comm]
set_option maxHeartbeats 1000000 in
/-- spec.peGcd. -/
theorem peGcd_any (b a : Nat) (w : World) (ha : a ≤ 70000) (hb : b ≤ 70000) :
    Calls Tryz.prog 96 #[.int .i64 a, .int .i64 b] w fun e w' => e = .returned (.int .i64 (Nat.gcd a b)) ∧ Below w.heap.size w w' := by
  induction b using Nat.strongRecOn generalizing a w with
  | ind b ih =>
    by_cases h0 : b = 0
    · subst h0
      rw [Nat.gcd_zero_right]
      clear ih
      go_enter Tryz.func96, Tryz.ntmps96
      go_wp2
      go_ret
      exact ⟨rfl, Below.refl _ _⟩
    · have hlt : a % b < b := Nat.mod_lt _ (by omega)
      have hrem : (a : Int) % (b : Int) = ((a % b : Nat) : Int) := by omega
      have hne : ((b : Int) == 0) = false := by simpa using h0
      have hpos : (0 : Int) < (b : Int) := by omega
      have HI := Lib.hid (fun w => ih (a % b) hlt b w hb (by omega))
      rw [gcd_step a b]
      clear ih
      generalize a % b = r at *
      generalize Nat.gcd b r = d at *
      go_enter Tryz.func96, Tryz.ntmps96
      go_wp2_with fail
      refine (HI.out _).mono ?_
      rintro e w1 ⟨rfl, hb1⟩
      go_wp2
      go_ret
      exact ⟨rfl, hb1⟩
set_option maxHeartbeats 1000000 in
/-- impl.commonDivisor. -/
theorem commonE (a b : Nat) (w : World) (ha : a ≤ 70000) (hb : b ≤ 70000) :
    Calls Tryz.prog 210 #[.int .i64 a, .int .i64 b] w fun e w' => e = .returned (.int .i64 (Nat.gcd a b)) ∧ Below w.heap.size w w' := by
  generalize hd : Nat.gcd a b = d at *
  have HD := Lib.hid hd; clear hd
  go_enter Tryz.func210, Tryz.ntmps210
  go_wp2
  go_loopw [0, 1] (fun va vb wr => ∃ x y : Nat, va = .int .i64 x ∧ vb = .int .i64 y ∧ Nat.gcd x y = d ∧ x ≤ 70000 ∧ y ≤ 70000 ∧ Below w.heap.size w wr) (fun _ vb _ => (intOf vb).toNat)
  case atStart => exact ⟨a, b, rfl, rfl, HD.out, ha, hb, Below.refl _ _⟩
  case round =>
    obtain ⟨x, y, rfl, rfl, hg, hx, hy, hbw⟩ := hrel
    have HB := Lib.hid hbw; clear hbw
    by_cases h0 : y = 0
    · subst h0
      rw [Nat.gcd_zero_right] at hg
      subst hg
      clear HD
      go_wp2
      go_ret
      exact ⟨rfl, HB.out⟩
    · have hlt : x % y < y := Nat.mod_lt _ (by omega)
      have hrem : (x : Int) % (y : Int) = ((x % y : Nat) : Int) := by omega
      have hne : ((y : Int) == 0) = false := by simpa using h0
      have hpos : (0 : Int) < (y : Int) := by omega
      rw [gcd_step x y] at hg
      have HG := Lib.hid hg
      clear hg
      generalize x % y = r at *
      go_wp2
      go_region
      all_goals
        go_wp2
        go_roundw
        case rel => exact ⟨y, r, by first | rfl | go_num, by first | rfl | go_num, HG.out, hy, by omega, by have hb := HB.out; (repeat' (first | (with_reducible assumption) | (with_reducible exact Below.refl _ _) | (with_reducible refine below_drewN ?_ _) | (with_reducible refine Below.drew ?_) | (with_reducible refine Below.alloc ?_ ?_ _) | (with_reducible refine Below.setCell ?_ ?_ _) | (with_reducible refine Below.trans ?_ (Below.mono (by assumption) ?_)) | (with_reducible exact Nat.le_refl _) | (with_reducible assumption) | omega | (simp; omega) | (simp; done)))⟩
        case measure => (simp [intOf]; try omega)
/-- A power that is told. -/
def okE (n : Int) : Bool := decide (0 ≤ n) && decide (n ≤ 400)
theorem okE_nat {n : Int} (h : okE n = true) : ∃ k : Nat, n = (k : Int) ∧ k ≤ 400 := by
  simp only [okE, Bool.and_eq_true, decide_eq_true_eq] at h
  exact ⟨n.toNat, by omega, by omega⟩
/-- spec.kdAsked. -/
theorem kdAsked_any (q n : Int) (w : World) :
    Calls Tryz.prog 95 #[.int .i64 q, .int .i64 n] w fun e w' => e = .returned (.bool (isSz q && okE n)) ∧ Below w.heap.size w w' := by
  cases h : isSz q with
  | false =>
    go_enter Tryz.func95, Tryz.ntmps95
    go_wp2_with fail
    refine (fdSize_any _ _).mono ?_
    rintro e w1 ⟨rfl, hb1⟩
    rw [h]
    go_wp2
    go_ret
    exact ⟨rfl, hb1⟩
  | true =>
    go_enter Tryz.func95, Tryz.ntmps95
    go_wp2_with fail
    refine (fdSize_any _ _).mono ?_
    rintro e w1 ⟨rfl, hb1⟩
    rw [h]
    go_wp2_with fail
    refine (l1In_any _ _ _ _).mono ?_
    rintro e w2 ⟨rfl, rfl⟩
    go_wp2
    go_ret
    exact ⟨rfl, hb1⟩
/-- impl.isExponent. -/
theorem isExponentE (n : Int) (w : World) :
    Calls Tryz.prog 93 #[.int .i64 n] w fun e w' => e = .returned (.bool (okE n)) ∧ Below w.heap.size w w' := by
  by_cases h0 : 0 ≤ n
  · have e0 : okE n = decide (n ≤ 400) := by simp [okE, h0]
    rw [e0]
    go_enter Tryz.func93, Tryz.ntmps93
    go_wp2
    go_ret
    exact ⟨rfl, Below.refl _ _⟩
  · have e0 : okE n = false := by simp [okE, h0]
    rw [e0]
    go_enter Tryz.func93, Tryz.ntmps93
    go_wp2
    go_ret
    exact ⟨rfl, Below.refl _ _⟩
/-- At least 1, with no divisor in common but 1. -/
def isOne (d : Nat) : Bool := decide (d = 1)
/-- A number of at least 1 that has no divisor in common with m but 1. -/
def npm (n m : Nat) : Bool := decide (1 ≤ n) && isOne (Nat.gcd n m)
theorem npm_pos {n m : Nat} (h : 1 ≤ n) : npm n m = isOne (Nat.gcd n m) := by simp [npm, h]
theorem npm_zero {m : Nat} : npm 0 m = false := rfl
theorem one_eq (d : Nat) : ((d : Int) == 1) = isOne d := by
  unfold isOne
  by_cases h : d = 1
  · subst h; rfl
  · rw [decide_eq_false h]
    simp
    omega
theorem one_eq' (d : Nat) : decide ((d : Int) = 1) = isOne d := by
  unfold isOne
  by_cases h : d = 1
  · subst h; rfl
  · rw [decide_eq_false h, decide_eq_false (by omega)]
/-- A closure of noDivisorWith, as read. -/
def NDv (w : World) (v : Value) (m : Nat) : Prop := ∃ b, v = .func (.func 209) #[] #[.pointer (some ⟨b, 0, none⟩)] ∧ b < w.heap.size ∧ w.cell? ⟨b, 0, none⟩ = some (.int .i64 m)
theorem NDv.below {w w' : World} {v : Value} {m B : Nat} (h : NDv w v m) (hb : Below B w w') (hB : w.heap.size ≤ B) : NDv w' v m := by
  obtain ⟨b, rfl, hl, hc⟩ := h
  have hz := hb.size
  exact ⟨b, rfl, by omega, (hb.cell (p := ⟨b, 0, none⟩) (show b < B by omega)).trans hc⟩
/-- impl.noDivisorWith's closure. -/
theorem noDivClo (n m b : Nat) (w : World) (hn : n ≤ 400) (hm : m ≤ 255) (hc : w.cell? ⟨b, 0, none⟩ = some (.int .i64 m)) :
    Calls Tryz.prog 209 #[.int .i64 n, .pointer (some ⟨b, 0, none⟩)] w fun e w' => e = .returned (.bool (npm n m)) ∧ Below w.heap.size w w' := by
  by_cases h1 : 1 ≤ n
  · have HG := Lib.hid (fun w => commonE n m w (by omega) (by omega))
    rw [npm_pos h1]
    generalize Nat.gcd n m = d at *
    have h1' : (1 : Int) ≤ (n : Int) := by omega
    have HD := Lib.hid (one_eq d)
    have HD' := Lib.hid (one_eq' d)
    go_enter Tryz.func209, Tryz.ntmps209
    go_wp2_with fail
    refine (HG.out _).mono ?_
    rintro e w1 ⟨rfl, hb1⟩
    go_wp2
    go_ret
    exact ⟨by first | exact ret_bool HD.out | exact ret_bool HD.out.symm | exact ret_bool HD'.out | exact ret_bool HD'.out.symm, hb1⟩
  · obtain rfl : n = 0 := by omega
    rw [npm_zero]
    go_enter Tryz.func209, Tryz.ntmps209
    go_wp2
    go_ret
    exact ⟨rfl, Below.refl _ _⟩
/-- impl.noDivisorWith. -/
theorem noDivE (m : Nat) (w : World) :
    Calls Tryz.prog 175 #[.int .i64 m] w fun e w' => ∃ v, e = .returned v ∧ NDv w' v m ∧ Below w.heap.size w w' := by
  go_enter Tryz.func175, Tryz.ntmps175
  go_wp2
  go_ret
  exact ⟨_, rfl, ⟨w.heap.size, rfl, by simp, by rw [cell_of_row _ _ 0 _ _ _ (heap_alloc_new w _)]; rfl⟩, by (repeat' (first | (with_reducible assumption) | (with_reducible exact Below.refl _ _) | (with_reducible refine below_drewN ?_ _) | (with_reducible refine Below.drew ?_) | (with_reducible refine Below.alloc ?_ ?_ _) | (with_reducible refine Below.setCell ?_ ?_ _) | (with_reducible refine Below.trans ?_ (Below.mono (by assumption) ?_)) | (with_reducible exact Nat.le_refl _) | (with_reducible assumption) | omega | (simp; omega) | (simp; done)))⟩
/-- impl.field.powersPermute. -/
theorem powersPermuteE (m : Nat) (w : World) (h : isSz (m : Int) = true) :
    Calls Tryz.prog 94 #[fdE (m : Int)] w fun e w' => ∃ v, e = .returned v ∧ NDv w' v (m - 1) ∧ Below w.heap.size w w' := by
  have hq := isSz_le (m : Int) h
  have hs : (m : Int) - 1 = ((m - 1 : Nat) : Int) := by omega
  have HN := Lib.hid (fun w => noDivE (m - 1) w)
  have hb : m - 1 ≤ 15 := by omega
  generalize m - 1 = k at *
  clear h
  go_enter Tryz.func94, Tryz.ntmps94
  go_wp2_with fail
  refine (HN.out _).mono ?_
  rintro e w1 ⟨v1, rfl, hv, hb1⟩
  have hz_hb1 := hb1.size; (try simp at hz_hb1)
  have HV := Lib.hid hv; clear hv
  go_wp2
  go_ret
  exact ⟨_, rfl, HV.out, by (repeat' (first | (with_reducible assumption) | (with_reducible exact Below.refl _ _) | (with_reducible refine below_drewN ?_ _) | (with_reducible refine Below.drew ?_) | (with_reducible refine Below.alloc ?_ ?_ _) | (with_reducible refine Below.setCell ?_ ?_ _) | (with_reducible refine Below.trans ?_ (Below.mono (by assumption) ?_)) | (with_reducible exact Nat.le_refl _) | (with_reducible assumption) | omega | (simp; omega) | (simp; done)))⟩
/-- The number with which a power of Dickson's is to have no divisor in common. -/
def dkm (m : Nat) (a : Int) : Nat := if a = 0 then m - 1 else m * m - 1
theorem dkm_le {m : Nat} (h : isSz (m : Int) = true) (a : Int) : dkm m a ≤ 255 := by
  have hq := isSz_le (m : Int) h
  unfold dkm
  split
  · omega
  · have : m * m ≤ 16 * 16 := Nat.mul_le_mul (by omega) (by omega)
    omega
/-- impl.element.dicksonsPermute. -/
theorem dicksonsPermuteE (m : Nat) (a : Int) (w : World) (h : isSz (m : Int) = true) (ha : El (m : Int) a) :
    Calls Tryz.prog 108 #[elE (m : Int) a] w fun e w' => ∃ v, e = .returned v ∧ NDv w' v (dkm m a) ∧ Below w.heap.size w w' := by
  have hq := isSz_le (m : Int) h
  have HZ := Lib.hid (fun w => isZeroE (m : Int) a w h ha.1 ha.2)
  by_cases h0 : a = 0
  · subst h0
    have HP := Lib.hid (fun w => powersPermuteE m w h)
    have HE : Hid (dkm m 0 = m - 1) := Lib.hid rfl
    rw [HE.out]
    clear h
    go_enter Tryz.func108, Tryz.ntmps108
    go_wp2_with fail
    refine (HZ.out _).mono ?_
    rintro e w1 ⟨rfl, hb1⟩
    have hz_hb1 := hb1.size; (try simp at hz_hb1)
    obtain ⟨hc1, hf1⟩ := bcell hb1
    have HB1 := Lib.hid hb1; clear hb1
    go_wp2_with fail
    refine (HP.out _).mono ?_
    rintro e w2 ⟨v2, rfl, hv, hb2⟩
    have HV := Lib.hid hv; clear hv
    go_wp2
    go_ret
    have hb1 := HB1.out
    exact ⟨_, rfl, HV.out, by (repeat' (first | (with_reducible assumption) | (with_reducible exact Below.refl _ _) | (with_reducible refine below_drewN ?_ _) | (with_reducible refine Below.drew ?_) | (with_reducible refine Below.alloc ?_ ?_ _) | (with_reducible refine Below.setCell ?_ ?_ _) | (with_reducible refine Below.trans ?_ (Below.mono (by assumption) ?_)) | (with_reducible exact Nat.le_refl _) | (with_reducible assumption) | omega | (simp; omega) | (simp; done)))⟩
  · have HN := Lib.hid (fun w => noDivE (m * m - 1) w)
    have HE : Hid (dkm m a = m * m - 1) := Lib.hid (if_neg h0)
    rw [HE.out]
    rw [decide_eq_false h0] at HZ
    have hmm : 1 ≤ m * m ∧ m * m ≤ 256 := ⟨Nat.mul_pos (by omega) (by omega), Nat.mul_le_mul (show m ≤ 16 by omega) (show m ≤ 16 by omega)⟩
    obtain ⟨p, hp⟩ : ∃ x, m * m = x := ⟨_, rfl⟩
    have hmul : (m : Int) * (m : Int) = (p : Int) := by rw [← hp]; rfl
    rw [hp] at HN hmm ⊢
    have hs : (p : Int) - 1 = ((p - 1 : Nat) : Int) := by omega
    have HPP := Lib.hid hp
    have hpb : p - 1 ≤ 255 := by omega
    clear h hp
    generalize p - 1 = k at *
    go_enter Tryz.func108, Tryz.ntmps108
    go_wp2_with fail
    refine (HZ.out _).mono ?_
    rintro e w1 ⟨rfl, hb1⟩
    have hz_hb1 := hb1.size; (try simp at hz_hb1)
    obtain ⟨hc1, hf1⟩ := bcell hb1
    have HB1 := Lib.hid hb1; clear hb1
    go_wp2_with fail
    refine (HN.out _).mono ?_
    rintro e w2 ⟨v2, rfl, hv, hb2⟩
    have HV := Lib.hid hv; clear hv
    go_wp2
    go_ret
    have hb1 := HB1.out
    exact ⟨_, rfl, HV.out, by (repeat' (first | (with_reducible assumption) | (with_reducible exact Below.refl _ _) | (with_reducible refine below_drewN ?_ _) | (with_reducible refine Below.drew ?_) | (with_reducible refine Below.alloc ?_ ?_ _) | (with_reducible refine Below.setCell ?_ ?_ _) | (with_reducible refine Below.trans ?_ (Below.mono (by assumption) ?_)) | (with_reducible exact Nat.le_refl _) | (with_reducible assumption) | omega | (simp; omega) | (simp; done)))⟩
end Go.Proofs.YtapglncgicfjnabGreat
