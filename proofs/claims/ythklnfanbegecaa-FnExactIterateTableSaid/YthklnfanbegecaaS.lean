/- spec.fdPower, spec.fdInverse and spec.fdOrder by contracts. -/
import Derived.Test.YthklnfanbegecaaF
import Derived.Test.YthklnfanbegecaaQ
namespace Go.Proofs.Ythklnfanbegecaa
open Go.RowKit

set_option maxHeartbeats 1000000 in
/-- spec.fdPower. -/
theorem fdPower_any (q a k : Int) (w : World) (h : isSz q = true) (a0 : 0 ≤ a) (a1 : a < q) (k0 : 0 ≤ k) (k1 : k ≤ 1000) :
    Calls Try.prog 55 #[.int .i64 q, .int .i64 a, .int .i64 k] w fun e w' => e = .returned (.int .i64 (pw q a k.toNat)) ∧ Below w.heap.size w w' := by
  have HT := Lib.hid (fun n w => fdTimes_any q (pw q a n) a w h (pw_bd q a h a0 a1 n).1 (pw_bd q a h a0 a1 n).2 a0 a1)
  obtain ⟨n, rfl⟩ := Int.eq_ofNat_of_zero_le k0
  rw [Int.toNat_natCast]
  clear h a0 a1 k0
  go_enter Try.func55, Try.ntmps55
  go_wp2
  go_loopw [2, 7] (fun vk vo wr => ∃ r : Nat, r ≤ n ∧ vk = .int .i64 r ∧ vo = .int .i64 (pw q a (n - r)) ∧ Below w.heap.size w wr) (fun vk _ _ => (intOf vk).toNat)
  case atStart => exact ⟨n, Nat.le_refl _, rfl, by rw [Nat.sub_self]; rfl, Below.refl _ _⟩
  case round =>
    obtain ⟨r, hr, rfl, rfl, hb⟩ := hrel
    have hz := hb.size
    have HB := Lib.hid hb; clear hb
    by_cases h0 : 0 < r
    · go_wp2_with fail
      refine (HT.out _ _).mono ?_
      rintro e w2 ⟨rfl, hb2⟩
      have hz_hb2 := hb2.size; (try simp at hz_hb2)
      have HB2 := Lib.hid hb2; clear hb2
      go_wp2
      go_roundw
      case rel =>
        refine ⟨r - 1, by omega, by go_num, ?_, HB.out.trans (HB2.out.mono hz)⟩
        rw [show n - (r - 1) = n - r + 1 from by omega]
        rfl
      case measure => simp [intOf]; omega
    · obtain rfl : r = 0 := by omega
      go_wp2
      go_ret
      exact ⟨rfl, HB.out⟩
theorem invF_bd (q a : Int) (h : isSz q = true) (a0 : 0 ≤ a) (a1 : a < q) : 0 ≤ invF q a ∧ invF q a < q := pw_bd q a h a0 a1 _
set_option maxHeartbeats 1000000 in
/-- spec.fdOrder. -/
theorem fdOrder_any (q a : Int) (w : World) (h : isSz q = true) (a0 : 0 < a) (a1 : a < q) :
    Calls Try.prog 68 #[.int .i64 q, .int .i64 a] w fun e w' => e = .returned (.int .i64 (ordN q a)) ∧ Below w.heap.size w w' := by
  have hq := isSz_le q h
  have HT := Lib.hid (fun n w => fdTimes_any q (pw q a n) a w h (pw_bd q a h (by omega) a1 n).1 (pw_bd q a h (by omega) a1 n).2 (by omega) a1)
  have HO := Lib.hid (ordN_spec q a h a0 a1)
  have HL := Lib.hid (ordN_least q a h a0 a1)
  have H1 := Lib.hid (mulF_one q a h (by omega) a1)
  clear h a0
  have hn : ordN q a ≤ 16 := by have := HO.out.2.2; omega
  generalize hne : ordN q a = n at *
  have HNE := Lib.hid hne; clear hne
  go_enter Try.func68, Try.ntmps68
  go_wp2
  go_loopw [5, 6] (fun vn vx wr => ∃ r : Nat, 1 ≤ r ∧ r ≤ n ∧ vn = .int .i64 r ∧ vx = .int .i64 (pw q a r) ∧ Below w.heap.size w wr) (fun vn _ _ => n - (intOf vn).toNat)
  case atStart => exact ⟨1, Nat.le_refl _, HO.out.2.1, rfl, by rw [show pw q a 1 = a from H1.out.1], Below.refl _ _⟩
  case round =>
    obtain ⟨r, hr1, hr, rfl, rfl, hb⟩ := hrel
    have hz := hb.size
    have HB := Lib.hid hb; clear hb
    by_cases h0 : r < n
    · have t : (pw q a r != 1) = true := by simpa using HL.out r hr1 h0
      go_wp2_with fail
      refine (HT.out _ _).mono ?_
      rintro e w2 ⟨rfl, hb2⟩
      have hz_hb2 := hb2.size; (try simp at hz_hb2)
      have HB2 := Lib.hid hb2; clear hb2
      go_wp2
      go_roundw
      case rel =>
        exact ⟨r + 1, by omega, by omega, by go_num, rfl, HB.out.trans (HB2.out.mono hz)⟩
      case measure => simp [intOf]; omega
    · obtain rfl : n = r := by omega
      have t : (pw q a n != 1) = false := by simpa using HO.out.1
      go_wp2
      go_ret
      exact ⟨rfl, HB.out⟩
end Go.Proofs.Ythklnfanbegecaa
