/- PowerSumOf and ByPowerSums, of both, by contracts; the walks of their laws. -/
import Derived.Test.YtnmdcmbcackchaaLE
namespace Go.Proofs.Ytnmdcmbcackchaa
open Go.RowKit
/-- The power is in its limits. -/
def inK (k : Int) : Bool := decide (0 ≤ k) && decide (k ≤ 100)
set_option maxHeartbeats 2000000 in
/-- spec.peSum. -/
theorem peSum_any (m K : Nat) (v : Value) (t : Nat → Int) (w : World) (h : isSz (m : Int) = true) (hv : Sl w v (fl t m)) (ht : ∀ i, i < m → El (m : Int) (t i)) (hK : K ≤ 1000) :
    Calls Try.prog 51 #[.int .i64 m, v, .int .i64 K] w fun e w' => e = .returned (.int .i64 (psum m t K)) ∧ Below w.heap.size w w' := by
  have hq := isSz_le (m : Int) h
  obtain ⟨a, cap, rfl, hp⟩ := hv.parts
  obtain ⟨b, off, rfl, hb, hcl⟩ := hp (by omega)
  have HC := Lib.hid hcl
  have HPW : Hid (∀ i w, i < m → Calls Try.prog 81 #[.int .i64 m, .int .i64 (t i), .int .i64 K] w fun e w' => e = .returned (.int .i64 (pw (m : Int) (t i) K)) ∧ Below w.heap.size w w') := Lib.hid fun i w hi => by
    have := fdPower_any (m : Int) (t i) (K : Int) w h (ht i hi).1 (ht i hi).2 (by omega) (by omega)
    rw [Int.toNat_natCast] at this
    exact this
  have HSE : Hid (∀ k, k ≤ m → El (m : Int) (lsum (m : Int) (fun i => pw (m : Int) (t i) K) k)) := Lib.hid fun k hk => lsum_el h fun i hi => El.pw h (ht i (by omega)) K
  have HPL : Hid (∀ k w, k < m → Calls Try.prog 80 #[.int .i64 m, .int .i64 (lsum (m : Int) (fun i => pw (m : Int) (t i) K) k), .int .i64 (pw (m : Int) (t k) K)] w fun e w' => e = .returned (.int .i64 (lsum (m : Int) (fun i => pw (m : Int) (t i) K) (k + 1))) ∧ Below w.heap.size w w') := Lib.hid fun k w hk =>
    fdPlus_any (m : Int) _ _ w h (HSE.out k (by omega)).1 (HSE.out k (by omega)).2 (El.pw h (ht k hk) K).1 (El.pw h (ht k hk) K).2
  have HI : Hid (psum m t K = lsum (m : Int) (fun i => pw (m : Int) (t i) K) m) := Lib.hid rfl
  have H0 : Hid (lsum (m : Int) (fun i => pw (m : Int) (t i) K) 0 = 0) := Lib.hid rfl
  rw [HI.out]
  clear hv ht h hp hcl HI HSE
  generalize lsum (m : Int) (fun i => pw (m : Int) (t i) K) = S at *
  go_enter Try.func51, Try.ntmps51
  go_wp2_with fail
  go_loopw [7, 12] (fun vs vi wr => ∃ k : Nat, k ≤ m ∧ vi = .int .i64 k ∧ vs = .int .i64 (S k) ∧ Below w.heap.size w wr) (fun _ vi _ => m - (intOf vi).toNat)
  case atStart => exact ⟨0, Nat.zero_le _, rfl, by rw [H0.out], Below.refl _ _⟩
  case round =>
    obtain ⟨k, hk, rfl, rfl, hbw⟩ := hrel
    by_cases hlt : k < m
    · have hc0 := (hbw.cell (p := ⟨b, off + k, none⟩) hb).trans (HC.out k hlt)
      have HBW := Lib.hid hbw; clear hbw
      have H1 := Lib.hid (fun w => HPW.out k w hlt)
      have H2 := Lib.hid (fun w => HPL.out k w hlt)
      generalize hx : pw (m : Int) (t k) K = x at *
      generalize t k = y at *
      generalize S k = s at *
      generalize hs' : S (k + 1) = s' at *
      have HS' := Lib.hid hs'
      clear hx hs'
      go_wp2_with fail
      refine (H1.out _).mono ?_
      rintro e w1 ⟨rfl, hb1⟩
      have hz_hb1 := hb1.size; (try simp at hz_hb1)
      have HB1 := Lib.hid hb1; clear hb1
      go_wp2_with fail
      refine (H2.out _).mono ?_
      rintro e w2 ⟨rfl, hb2⟩
      have HB2 := Lib.hid hb2; clear hb2
      go_wp2
      go_roundw
      case rel => exact ⟨k + 1, by omega, by go_num, by rw [HS'.out], HBW.out.trans ((HB1.out.trans (HB2.out.mono hz_hb1)).mono HBW.out.size)⟩
      case measure => simp [intOf]; omega
    · obtain rfl : m = k := by omega
      have HBW := Lib.hid hbw; clear hbw
      go_wp2
      go_ret
      exact ⟨rfl, HBW.out⟩
end Go.Proofs.Ytnmdcmbcackchaa
