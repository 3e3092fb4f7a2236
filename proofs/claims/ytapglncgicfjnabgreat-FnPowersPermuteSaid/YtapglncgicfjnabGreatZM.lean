/- The draws of the general law FnPowersPermute (gen zn.py). -/
import Derived.Test.YtapglncgicfjnabGreatZA
import Derived.Test.YtapglncgicfjnabGreatDW
namespace Go.Proofs.YtapglncgicfjnabGreat
open Go.RowKit
set_option maxHeartbeats 2000000 in
/-- spec.DrawPowerOfX. -/
theorem drawPowerOfX_any (a : Option Addr) (n c : Nat) (w : World) (h : Bys w a n) :
    Calls Tryz.prog 92 #[.slice a n c] w fun e w' => ∃ (q : Int) (x : Int), e = .returned (.tuple #[.int .i64 q, .int .i64 x]) ∧ Below w.heap.size w w' := by
  have H_exponent := Lib.hid (fun k w' (hc : Cu w' w.heap.size a n c k) (hk : k ≤ 800) => exponent_any w.heap.size a n c k w' hc (by omega))
  have H_size := Lib.hid (fun k w' (hc : Cu w' w.heap.size a n c k) (hk : k ≤ 800) => size_any w.heap.size a n c k w' hc (by omega))
  have HC0 := Lib.hid (h.cur c)
  have HK0 := Lib.hid (Kp.refl w.heap.size (w.alloc (.cells #[.slice a n c, .int .i64 0, .int .u64 0] 57)))
  have HCL : Hid (w.heap.size < (w.alloc (.cells #[.slice a n c, .int .i64 0, .int .u64 0] 57)).heap.size) := Lib.hid (h.cur c).lt
  clear h
  go_enter Tryz.func92, Tryz.ntmps92
  go_wp2_with fail
  refine (H_size.out _ _ HC0.out (by omega)).mono ?_
  rintro e w1 ⟨q, rfl, hc, hk⟩
  have HC1 := Lib.hid hc
  have HK1 := Lib.hid (HK0.out.trans hk)
  clear hc hk HC0 HK0
  go_wp2_with fail
  refine (H_exponent.out _ _ HC1.out (by omega)).mono ?_
  rintro e w2 ⟨x, rfl, hc, hk⟩
  have HC2 := Lib.hid hc
  have HK2 := Lib.hid (HK1.out.trans hk)
  clear hc hk HC1 HK1
  have hst := HK2.out.start
  have hsz := hst.size
  clear HC2
  go_wp2
  go_ret2
  exact ⟨q, x, rfl, hst⟩
set_option maxHeartbeats 2000000 in
/-- spec.DrawPowerPermutes. -/
theorem drawPowerPermutes_any (a : Option Addr) (n c : Nat) (w : World) (h : Bys w a n) :
    Calls Tryz.prog 22 #[.slice a n c] w fun e w' => ∃ (q : Int) (x : Int), e = .returned (.tuple #[.int .i64 q, .int .i64 x]) ∧ Below w.heap.size w w' := by
  have HS := Lib.hid (drawPowerOfX_any a n c w h)
  clear h
  go_enter Tryz.func22, Tryz.ntmps22
  go_wp2_with fail
  refine HS.out.mono ?_
  rintro e w1 ⟨q, x, rfl, hb1⟩
  go_wp2
  go_ret2
  exact ⟨q, x, rfl, hb1⟩
set_option maxHeartbeats 2000000 in
/-- spec.DrawDicksonOf. -/
theorem drawDicksonOf_any (a : Option Addr) (n c : Nat) (w : World) (h : Bys w a n) :
    Calls Tryz.prog 107 #[.slice a n c] w fun e w' => ∃ (q : Int) (x : Int) (y : Int), e = .returned (.tuple #[.int .i64 q, .int .i64 x, .int .i64 y]) ∧ Below w.heap.size w w' := by
  have H_elem := Lib.hid (fun k q w' (hc : Cu w' w.heap.size a n c k) (hk : k ≤ 800) => elem_any w.heap.size a n c k q w' hc (by omega))
  have H_exponent := Lib.hid (fun k w' (hc : Cu w' w.heap.size a n c k) (hk : k ≤ 800) => exponent_any w.heap.size a n c k w' hc (by omega))
  have H_size := Lib.hid (fun k w' (hc : Cu w' w.heap.size a n c k) (hk : k ≤ 800) => size_any w.heap.size a n c k w' hc (by omega))
  have HC0 := Lib.hid (h.cur c)
  have HK0 := Lib.hid (Kp.refl w.heap.size (w.alloc (.cells #[.slice a n c, .int .i64 0, .int .u64 0] 57)))
  have HCL : Hid (w.heap.size < (w.alloc (.cells #[.slice a n c, .int .i64 0, .int .u64 0] 57)).heap.size) := Lib.hid (h.cur c).lt
  clear h
  go_enter Tryz.func107, Tryz.ntmps107
  go_wp2_with fail
  refine (H_size.out _ _ HC0.out (by omega)).mono ?_
  rintro e w1 ⟨q, rfl, hc, hk⟩
  have HC1 := Lib.hid hc
  have HK1 := Lib.hid (HK0.out.trans hk)
  clear hc hk HC0 HK0
  go_wp2_with fail
  refine (H_exponent.out _ _ HC1.out (by omega)).mono ?_
  rintro e w2 ⟨x, rfl, hc, hk⟩
  have HC2 := Lib.hid hc
  have HK2 := Lib.hid (HK1.out.trans hk)
  clear hc hk HC1 HK1
  go_wp2_with fail
  refine (H_elem.out _ q _ HC2.out (by omega)).mono ?_
  rintro e w3 ⟨y, rfl, hc, hk⟩
  have HC3 := Lib.hid hc
  have HK3 := Lib.hid (HK2.out.trans hk)
  clear hc hk HC2 HK2
  have hst := HK3.out.start
  have hsz := hst.size
  clear HC3
  go_wp2
  go_ret3
  exact ⟨q, x, y, rfl, hst⟩
set_option maxHeartbeats 2000000 in
/-- spec.DrawDicksonPermutes. -/
theorem drawDicksonPermutes_any (a : Option Addr) (n c : Nat) (w : World) (h : Bys w a n) :
    Calls Tryz.prog 33 #[.slice a n c] w fun e w' => ∃ (q : Int) (x : Int) (y : Int), e = .returned (.tuple #[.int .i64 q, .int .i64 x, .int .i64 y]) ∧ Below w.heap.size w w' := by
  have HS := Lib.hid (drawDicksonOf_any a n c w h)
  clear h
  go_enter Tryz.func33, Tryz.ntmps33
  go_wp2_with fail
  refine HS.out.mono ?_
  rintro e w1 ⟨q, x, y, rfl, hb1⟩
  go_wp2
  go_ret3
  exact ⟨q, x, y, rfl, hb1⟩
end Go.Proofs.YtapglncgicfjnabGreat
