/- The draws of the general laws FnPowersAndLogs and FnTracesAndNorms (gen zf.py). -/
import Derived.Test.YtapglncgicfjnaaZA
namespace Go.Proofs.Ytapglncgicfjnaa
open Go.RowKit
set_option maxHeartbeats 2000000 in
/-- spec.DrawPowerOf. -/
theorem drawPowerOf_any (a : Option Addr) (n c : Nat) (w : World) (h : Bys w a n) :
    Calls Try.prog 23 #[.slice a n c] w fun e w' => ∃ (q : Int) (x : Int) (k : Int), e = .returned (.tuple #[.int .i64 q, .int .i64 x, .int .i64 k]) ∧ Below w.heap.size w w' := by
  have H_elem := Lib.hid (fun k q w' (hc : Cu w' w.heap.size a n c k) (hk : k ≤ 800) => elem_any w.heap.size a n c k q w' hc (by omega))
  have H_size := Lib.hid (fun k w' (hc : Cu w' w.heap.size a n c k) (hk : k ≤ 800) => size_any w.heap.size a n c k w' hc (by omega))
  have H_among12 := Lib.hid (fun k l w' (hc : Cu w' w.heap.size a n c k) (hk : k ≤ 800) (hl : l.length = 12) o ho => among_new w.heap.size a n c k 12 l w' hc (by omega) hl (by omega) (by omega) o ho)
  have HC0 := Lib.hid (h.cur c)
  have HK0 := Lib.hid (Kp.refl w.heap.size (w.alloc (.cells #[.slice a n c, .int .i64 0, .int .u64 0] 80)))
  have HCL : Hid (w.heap.size < (w.alloc (.cells #[.slice a n c, .int .i64 0, .int .u64 0] 80)).heap.size) := Lib.hid (h.cur c).lt
  clear h
  go_enter Try.func23, Try.ntmps23
  go_wp2_with fail
  refine (H_size.out _ _ HC0.out (by omega)).mono ?_
  rintro e w1 ⟨q, rfl, hc, hk⟩
  have HC1 := Lib.hid hc
  have HK1 := Lib.hid (HK0.out.trans hk)
  clear hc hk HC0 HK0
  go_wp2_with fail
  refine (H_elem.out _ q _ HC1.out (by omega)).mono ?_
  rintro e w2 ⟨x, rfl, hc, hk⟩
  have HC2 := Lib.hid hc
  have HK2 := Lib.hid (HK1.out.trans hk)
  clear hc hk HC1 HK1
  go_wp2_with fail
  refine (H_among12.out _ [0, 1, 2, 3, 7, -1, -2, 15, 1000, -1000, 1001, -1001] _ HC2.out (by omega) rfl _ rfl).mono ?_
  rintro e w3 ⟨k, rfl, hc, hk⟩
  have HC3 := Lib.hid hc
  have HK3 := Lib.hid (HK2.out.trans hk)
  clear hc hk HC2 HK2
  have hst := HK3.out.start
  have hsz := hst.size
  clear HC3
  go_wp2
  go_ret3
  exact ⟨q, x, k, rfl, hst⟩
set_option maxHeartbeats 2000000 in
/-- spec.DrawSumOfAll. -/
theorem drawSumOfAll_any (a : Option Addr) (n c : Nat) (w : World) (h : Bys w a n) :
    Calls Try.prog 42 #[.slice a n c] w fun e w' => ∃ (q : Int) (x : Int), e = .returned (.tuple #[.int .i64 q, .int .i64 x]) ∧ Below w.heap.size w w' := by
  have H_size := Lib.hid (fun k w' (hc : Cu w' w.heap.size a n c k) (hk : k ≤ 800) => size_any w.heap.size a n c k w' hc (by omega))
  have H_among11 := Lib.hid (fun k l w' (hc : Cu w' w.heap.size a n c k) (hk : k ≤ 800) (hl : l.length = 11) o ho => among_new w.heap.size a n c k 11 l w' hc (by omega) hl (by omega) (by omega) o ho)
  have HC0 := Lib.hid (h.cur c)
  have HK0 := Lib.hid (Kp.refl w.heap.size (w.alloc (.cells #[.slice a n c, .int .i64 0, .int .u64 0] 80)))
  have HCL : Hid (w.heap.size < (w.alloc (.cells #[.slice a n c, .int .i64 0, .int .u64 0] 80)).heap.size) := Lib.hid (h.cur c).lt
  clear h
  go_enter Try.func42, Try.ntmps42
  go_wp2_with fail
  refine (H_size.out _ _ HC0.out (by omega)).mono ?_
  rintro e w1 ⟨q, rfl, hc, hk⟩
  have HC1 := Lib.hid hc
  have HK1 := Lib.hid (HK0.out.trans hk)
  clear hc hk HC0 HK0
  go_wp2_with fail
  refine (H_among11.out _ [0, 1, 2, 3, _, _, _, 15, 1000, 1001, -1] _ HC1.out (by omega) rfl _ rfl).mono ?_
  rintro e w2 ⟨x, rfl, hc, hk⟩
  have HC2 := Lib.hid hc
  have HK2 := Lib.hid (HK1.out.trans hk)
  clear hc hk HC1 HK1
  have hst := HK2.out.start
  have hsz := hst.size
  clear HC2
  go_wp2
  go_ret2
  exact ⟨q, x, rfl, hst⟩
set_option maxHeartbeats 2000000 in
/-- spec.DrawOrderOf. -/
theorem drawOrderOf_any (a : Option Addr) (n c : Nat) (w : World) (h : Bys w a n) :
    Calls Try.prog 27 #[.slice a n c] w fun e w' => ∃ (q : Int) (x : Int), e = .returned (.tuple #[.int .i64 q, .int .i64 x]) ∧ Below w.heap.size w w' := by
  have HS := Lib.hid (drawDigits_any a n c w h)
  clear h
  go_enter Try.func27, Try.ntmps27
  go_wp2_with fail
  refine HS.out.mono ?_
  rintro e w1 ⟨q, x, rfl, hb1⟩
  go_wp2
  go_ret2
  exact ⟨q, x, rfl, hb1⟩
set_option maxHeartbeats 2000000 in
/-- spec.DrawTraceOf. -/
theorem drawTraceOf_any (a : Option Addr) (n c : Nat) (w : World) (h : Bys w a n) :
    Calls Try.prog 46 #[.slice a n c] w fun e w' => ∃ (q : Int) (x : Int), e = .returned (.tuple #[.int .i64 q, .int .i64 x]) ∧ Below w.heap.size w w' := by
  have HS := Lib.hid (drawDigits_any a n c w h)
  clear h
  go_enter Try.func46, Try.ntmps46
  go_wp2_with fail
  refine HS.out.mono ?_
  rintro e w1 ⟨q, x, rfl, hb1⟩
  go_wp2
  go_ret2
  exact ⟨q, x, rfl, hb1⟩
set_option maxHeartbeats 2000000 in
/-- spec.DrawAllPrimitive. -/
theorem drawAllPrimitive_any (a : Option Addr) (n c : Nat) (w : World) (h : Bys w a n) :
    Calls Try.prog 33 #[.slice a n c] w fun e w' => ∃ (q : Int), e = .returned (.int .i64 q) ∧ Below w.heap.size w w' := by
  have HS := Lib.hid (drawPrime_any a n c w h)
  clear h
  go_enter Try.func33, Try.ntmps33
  go_wp2_with fail
  refine HS.out.mono ?_
  rintro e w1 ⟨q, rfl, hb1⟩
  go_wp2
  go_ret
  exact ⟨q, rfl, hb1⟩
set_option maxHeartbeats 2000000 in
/-- spec.DrawSubfieldOf. -/
theorem drawSubfieldOf_any (a : Option Addr) (n c : Nat) (w : World) (h : Bys w a n) :
    Calls Try.prog 55 #[.slice a n c] w fun e w' => ∃ (q : Int) (x : Int), e = .returned (.tuple #[.int .i64 q, .int .i64 x]) ∧ Below w.heap.size w w' := by
  have H_size := Lib.hid (fun k w' (hc : Cu w' w.heap.size a n c k) (hk : k ≤ 800) => size_any w.heap.size a n c k w' hc (by omega))
  have H_among9 := Lib.hid (fun k l w' (hc : Cu w' w.heap.size a n c k) (hk : k ≤ 800) (hl : l.length = 9) o ho => among_new w.heap.size a n c k 9 l w' hc (by omega) hl (by omega) (by omega) o ho)
  have HC0 := Lib.hid (h.cur c)
  have HK0 := Lib.hid (Kp.refl w.heap.size (w.alloc (.cells #[.slice a n c, .int .i64 0, .int .u64 0] 80)))
  have HCL : Hid (w.heap.size < (w.alloc (.cells #[.slice a n c, .int .i64 0, .int .u64 0] 80)).heap.size) := Lib.hid (h.cur c).lt
  clear h
  go_enter Try.func55, Try.ntmps55
  go_wp2_with fail
  refine (H_size.out _ _ HC0.out (by omega)).mono ?_
  rintro e w1 ⟨q, rfl, hc, hk⟩
  have HC1 := Lib.hid hc
  have HK1 := Lib.hid (HK0.out.trans hk)
  clear hc hk HC0 HK0
  go_wp2_with fail
  refine (H_among9.out _ [2, 4, 2, 4, 3, q, q, 8, 1] _ HC1.out (by omega) rfl _ rfl).mono ?_
  rintro e w2 ⟨x, rfl, hc, hk⟩
  have HC2 := Lib.hid hc
  have HK2 := Lib.hid (HK1.out.trans hk)
  clear hc hk HC1 HK1
  have hst := HK2.out.start
  have hsz := hst.size
  clear HC2
  go_wp2
  go_ret2
  exact ⟨q, x, rfl, hst⟩
end Go.Proofs.Ytapglncgicfjnaa
