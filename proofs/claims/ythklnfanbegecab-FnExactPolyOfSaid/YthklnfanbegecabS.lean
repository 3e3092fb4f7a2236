/- spec.fdPower, spec.fdInverse and spec.fdOrder by contracts. -/
import Derived.Test.YthklnfanbegecabF
import Derived.Test.YthklnfanbegecabQ
namespace Go.Proofs.Ythklnfanbegecab
open Go.RowKit

set_option maxHeartbeats 1000000 in
/-- spec.fdPower. -/
theorem fdPower_any (q a k : Int) (w : World) (h : isSz q = true) (a0 : 0 ≤ a) (a1 : a < q) (k0 : 0 ≤ k) (k1 : k ≤ 1000) :
    Calls Try.prog 89 #[.int .i64 q, .int .i64 a, .int .i64 k] w fun e w' => e = .returned (.int .i64 (pw q a k.toNat)) ∧ Below w.heap.size w w' := by
  have HT := Lib.hid (fun n w => fdTimes_any q (pw q a n) a w h (pw_bd q a h a0 a1 n).1 (pw_bd q a h a0 a1 n).2 a0 a1)
  obtain ⟨n, rfl⟩ := Int.eq_ofNat_of_zero_le k0
  rw [Int.toNat_natCast]
  clear h a0 a1 k0
  go_enter Try.func89, Try.ntmps89
  go_wp2
  go_loopw [2, 7] (fun vk vo wr => ∃ r : Nat, r ≤ n ∧ vk = .int .i64 r ∧ vo = .int .i64 (pw q a (n - r)) ∧ Below w.heap.size w wr) (fun vk _ _ => (intOf vk).toNat)
  case atStart => exact ⟨n, Nat.le_refl _, rfl, by rw [Nat.sub_self]; rfl, Below.refl _ _⟩
  case round =>
    obtain ⟨r, hr, rfl, rfl, hb⟩ := hrel
    have hz := hb.size
    have HB := Lib.hid hb; clear hb
    by_cases h0 : 0 < r
    · go_wp2_with fail
      refine (HT.out _ _).mono ?_
      rintro e w2 ⟨rfl, hb2⟩
      have hz_hb2 := hb2.size; (try simp at hz_hb2)
      have HB2 := Lib.hid hb2; clear hb2
      go_wp2
      go_roundw
      case rel =>
        refine ⟨r - 1, by omega, by go_num, ?_, HB.out.trans (HB2.out.mono hz)⟩
        rw [show n - (r - 1) = n - r + 1 from by omega]
        rfl
      case measure => simp [intOf]; omega
    · obtain rfl : r = 0 := by omega
      go_wp2
      go_ret
      exact ⟨rfl, HB.out⟩
theorem invF_bd (q a : Int) (h : isSz q = true) (a0 : 0 ≤ a) (a1 : a < q) : 0 ≤ invF q a ∧ invF q a < q := pw_bd q a h a0 a1 _
end Go.Proofs.Ythklnfanbegecab
