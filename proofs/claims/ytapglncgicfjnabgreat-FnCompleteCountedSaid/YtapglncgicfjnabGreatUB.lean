/- The draws of the law of sums by formulas, by contracts: some numbers. -/
import Derived.Test.YtapglncgicfjnabGreatZA
import Derived.Test.YtapglncgicfjnabGreatTB
namespace Go.Proofs.YtapglncgicfjnabGreat
open Go.RowKit
set_option maxHeartbeats 2000000 in
/-- spec.l1Cur.odd. -/
theorem odd_any (cb : Nat) (a : Option Addr) (n c k : Nat) (w : World) (h : Cu w cb a n c k) (hk : k ≤ 800) :
    Calls Tryz.prog 192 #[.pointer (some ⟨cb, 0, none⟩)] w fun e w' => ∃ r : Int, e = .returned (.int .i64 r) ∧ Cu w' cb a n c (k + 6) ∧ Kp cb w w' := by
  have HO := Lib.hid (one_any cb a n c k 8 w h (by omega))
  have HS := Lib.hid (fun w (h : Cu w cb a n c (k + 2)) => size_any cb a n c (k + 2) w h (by omega))
  have HA := Lib.hid (fun o w (h : Cu w cb a n c (k + 2)) => among_new cb a n c (k + 2) 6 [3, 5, 7, 9, 11, 13] w h (by omega) rfl (by omega) (by omega) o)
  clear h
  go_enter Tryz.func192, Tryz.ntmps192
  go_wp2_with fail
  refine HO.out.mono ?_
  rintro e w1 ⟨b, rfl, hc1, hk1⟩
  have HC1 := Lib.hid hc1
  have HK1 := Lib.hid hk1
  clear hc1 hk1
  cases b
  · go_wp2_with fail
    refine (HA.out _ _ HC1.out rfl).mono ?_
    rintro e w2 ⟨r, rfl, hc2, hk2⟩
    have HC2 := Lib.hid hc2
    have HK2 := Lib.hid hk2
    clear hc2 hk2
    go_wp2
    go_ret
    exact ⟨_, rfl, HC2.out.mono (by omega), HK1.out.trans HK2.out⟩
  · go_wp2_with fail
    refine (HS.out _ HC1.out).mono ?_
    rintro e w2 ⟨r, rfl, hc2, hk2⟩
    have HC2 := Lib.hid hc2
    have HK2 := Lib.hid hk2
    clear hc2 hk2
    go_wp2
    go_ret
    exact ⟨_, rfl, HC2.out, HK1.out.trans HK2.out⟩
end Go.Proofs.YtapglncgicfjnabGreat
