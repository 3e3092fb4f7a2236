/- The draws of the general laws FnTablesAndPolynomials and FnPolynomialsCompose, by contracts: some numbers, new (gen yb.py). -/
import Derived.Test.YtljijnanmpajaaaGreatZS
namespace Go.Proofs.YtljijnanmpajaaaGreat
open Go.RowKit
theorem among_max (cb : Nat) (a : Option Addr) (n c k len : Nat) (B : Int) (l : List Int) (w : World) (h : Cu w cb a n c k) (hk : k ≤ 900) (hl : l.length = len) (h0 : 1 ≤ len) (h1 : len ≤ 1000) (o : Obj) (ho : o = Obj.cells ((l.map (Value.int .i64)).toArray) 3 (0, 0)) (hb : ∀ x ∈ l, x ≤ B) :
    Calls Tryz.prog 103 #[.pointer (some ⟨cb, 0, none⟩), .slice (some ⟨w.heap.size, 0, none⟩) len len] (w.alloc o) fun e w' => ∃ r : Int, e = .returned (.int .i64 r) ∧ r ≤ B ∧ Cu w' cb a n c (k + 2) ∧ Kp cb w w' := by
  refine (among_any cb w.heap.size a n c k len len l 3 (w.alloc o) (h.kp (Below.alloc (Below.refl _ _) (Nat.le_refl _) _)) (by omega) (by rw [heap_alloc_new, ho]) (by have := h.lt; omega) hl h0 h1).mono ?_
  rintro e w' ⟨i, hi, rfl, hc, hk⟩
  refine ⟨_, rfl, hb _ ?_, hc, (h.allocs o).trans hk⟩
  rw [show l.getD i 0 = l[i] by simp [List.getD, hi, hl]]
  exact List.getElem_mem _
set_option maxHeartbeats 2000000 in
/-- spec.DrawTableOf. -/
theorem drawTableOf_any (a : Option Addr) (n c : Nat) (w : World) (h : Bys w a n) :
    Calls Tryz.prog 8 #[.slice a n c] w fun e w' => ∃ (q : Int) (v_f : Value) (l_f : List Int), e = .returned (.tuple #[.int .i64 q, v_f]) ∧ l_f.length ≤ 48 ∧ Row w' w.heap.size v_f l_f ∧ Below w.heap.size w w' := by
  have H_poly := Lib.hid (fun k q w' (hc : Cu w' w.heap.size a n c k) (hk : k ≤ 400) => poly_any w.heap.size a n c k q w' hc (by omega))
  have H_size := Lib.hid (fun k w' (hc : Cu w' w.heap.size a n c k) (hk : k ≤ 800) => size_any w.heap.size a n c k w' hc (by omega))
  have HC0 := Lib.hid (h.cur c)
  have HK0 := Lib.hid (Kp.refl w.heap.size (w.alloc (.cells #[.slice a n c, .int .i64 0, .int .u64 0] 53)))
  have HCL : Hid (w.heap.size < (w.alloc (.cells #[.slice a n c, .int .i64 0, .int .u64 0] 53)).heap.size) := Lib.hid (h.cur c).lt
  clear h
  go_enter Tryz.func8, Tryz.ntmps8
  go_wp2_with fail
  refine (H_size.out _ _ HC0.out (by omega)).mono ?_
  rintro e w1 ⟨q, rfl, hc, hk⟩
  have HC1 := Lib.hid hc
  have HK1 := Lib.hid (HK0.out.trans hk)
  clear hc hk HC0 HK0
  go_wp2_with fail
  refine (H_poly.out _ q _ HC1.out (by omega)).mono ?_
  rintro e w2 ⟨v_f, l_f, rfl, hl_f, hr, hc, hk⟩
  have HR_f := Lib.hid hr; clear hr
  have hsz_f : w.heap.size < w1.heap.size := by have := HK1.out.1.size; have := HCL.out; omega
  have HC2 := Lib.hid hc
  have HK2 := Lib.hid (HK1.out.trans hk)
  clear hc hk HC1 HK1
  have hst := HK2.out.start
  have hsz := hst.size
  clear HC2
  go_wp2
  go_ret2
  exact ⟨q, v_f, l_f, rfl, by omega, HR_f.out.mono (Nat.le_of_lt hsz_f), hst⟩
set_option maxHeartbeats 2000000 in
/-- spec.DrawPolyOf. -/
theorem drawPolyOf_any (a : Option Addr) (n c : Nat) (w : World) (h : Bys w a n) :
    Calls Tryz.prog 18 #[.slice a n c] w fun e w' => ∃ (q : Int) (v_f : Value) (l_f : List Int), e = .returned (.tuple #[.int .i64 q, v_f]) ∧ l_f.length ≤ 48 ∧ Row w' w.heap.size v_f l_f ∧ Below w.heap.size w w' := by
  have H_size := Lib.hid (fun k w' (hc : Cu w' w.heap.size a n c k) (hk : k ≤ 800) => size_any w.heap.size a n c k w' hc (by omega))
  have H_table := Lib.hid (fun k q w' (hc : Cu w' w.heap.size a n c k) (hk : k ≤ 400) => table_any w.heap.size a n c k q w' hc (by omega))
  have HC0 := Lib.hid (h.cur c)
  have HK0 := Lib.hid (Kp.refl w.heap.size (w.alloc (.cells #[.slice a n c, .int .i64 0, .int .u64 0] 53)))
  have HCL : Hid (w.heap.size < (w.alloc (.cells #[.slice a n c, .int .i64 0, .int .u64 0] 53)).heap.size) := Lib.hid (h.cur c).lt
  clear h
  go_enter Tryz.func18, Tryz.ntmps18
  go_wp2_with fail
  refine (H_size.out _ _ HC0.out (by omega)).mono ?_
  rintro e w1 ⟨q, rfl, hc, hk⟩
  have HC1 := Lib.hid hc
  have HK1 := Lib.hid (HK0.out.trans hk)
  clear hc hk HC0 HK0
  go_wp2_with fail
  refine (H_table.out _ q _ HC1.out (by omega)).mono ?_
  rintro e w2 ⟨v_f, l_f, rfl, hl_f, hr, hc, hk⟩
  have HR_f := Lib.hid hr; clear hr
  have hsz_f : w.heap.size < w1.heap.size := by have := HK1.out.1.size; have := HCL.out; omega
  have HC2 := Lib.hid hc
  have HK2 := Lib.hid (HK1.out.trans hk)
  clear hc hk HC1 HK1
  have hst := HK2.out.start
  have hsz := hst.size
  clear HC2
  go_wp2
  go_ret2
  exact ⟨q, v_f, l_f, rfl, by omega, HR_f.out.mono (Nat.le_of_lt hsz_f), hst⟩
set_option maxHeartbeats 2000000 in
/-- spec.DrawValueAt. -/
theorem drawValueAt_any (a : Option Addr) (n c : Nat) (w : World) (h : Bys w a n) :
    Calls Tryz.prog 26 #[.slice a n c] w fun e w' => ∃ (q : Int) (v_f : Value) (l_f : List Int) (x : Int), e = .returned (.tuple #[.int .i64 q, v_f, .int .i64 x]) ∧ l_f.length ≤ 48 ∧ Row w' w.heap.size v_f l_f ∧ Below w.heap.size w w' := by
  have H_elem := Lib.hid (fun k q w' (hc : Cu w' w.heap.size a n c k) (hk : k ≤ 800) => elem_any w.heap.size a n c k q w' hc (by omega))
  have H_poly := Lib.hid (fun k q w' (hc : Cu w' w.heap.size a n c k) (hk : k ≤ 400) => poly_any w.heap.size a n c k q w' hc (by omega))
  have H_size := Lib.hid (fun k w' (hc : Cu w' w.heap.size a n c k) (hk : k ≤ 800) => size_any w.heap.size a n c k w' hc (by omega))
  have HC0 := Lib.hid (h.cur c)
  have HK0 := Lib.hid (Kp.refl w.heap.size (w.alloc (.cells #[.slice a n c, .int .i64 0, .int .u64 0] 53)))
  have HCL : Hid (w.heap.size < (w.alloc (.cells #[.slice a n c, .int .i64 0, .int .u64 0] 53)).heap.size) := Lib.hid (h.cur c).lt
  clear h
  go_enter Tryz.func26, Tryz.ntmps26
  go_wp2_with fail
  refine (H_size.out _ _ HC0.out (by omega)).mono ?_
  rintro e w1 ⟨q, rfl, hc, hk⟩
  have HC1 := Lib.hid hc
  have HK1 := Lib.hid (HK0.out.trans hk)
  clear hc hk HC0 HK0
  go_wp2_with fail
  refine (H_poly.out _ q _ HC1.out (by omega)).mono ?_
  rintro e w2 ⟨v_f, l_f, rfl, hl_f, hr, hc, hk⟩
  have HR_f := Lib.hid hr; clear hr
  have hsz_f : w.heap.size < w1.heap.size := by have := HK1.out.1.size; have := HCL.out; omega
  have HC2 := Lib.hid hc
  have HK2 := Lib.hid (HK1.out.trans hk)
  clear hc hk HC1 HK1
  go_wp2_with fail
  refine (H_elem.out _ q _ HC2.out (by omega)).mono ?_
  rintro e w3 ⟨x, rfl, hc, hk⟩
  have HS_f := HR_f.out.kp hk hsz_f
  clear HR_f
  have HR_f := Lib.hid HS_f; clear HS_f
  have HC3 := Lib.hid hc
  have HK3 := Lib.hid (HK2.out.trans hk)
  clear hc hk HC2 HK2
  have hst := HK3.out.start
  have hsz := hst.size
  clear HC3
  go_wp2
  go_ret3
  exact ⟨q, v_f, l_f, x, rfl, by omega, HR_f.out.mono (Nat.le_of_lt hsz_f), hst⟩
set_option maxHeartbeats 2000000 in
/-- spec.DrawPlusPoly. -/
theorem drawPlusPoly_any (a : Option Addr) (n c : Nat) (w : World) (h : Bys w a n) :
    Calls Tryz.prog 117 #[.slice a n c] w fun e w' => ∃ (q : Int) (v_f : Value) (l_f : List Int) (v_g : Value) (l_g : List Int), e = .returned (.tuple #[.int .i64 q, v_f, v_g]) ∧ l_f.length ≤ 48 ∧ Row w' w.heap.size v_f l_f ∧ l_g.length ≤ 48 ∧ Row w' w.heap.size v_g l_g ∧ Below w.heap.size w w' := by
  have H_poly := Lib.hid (fun k q w' (hc : Cu w' w.heap.size a n c k) (hk : k ≤ 400) => poly_any w.heap.size a n c k q w' hc (by omega))
  have H_size := Lib.hid (fun k w' (hc : Cu w' w.heap.size a n c k) (hk : k ≤ 800) => size_any w.heap.size a n c k w' hc (by omega))
  have HC0 := Lib.hid (h.cur c)
  have HK0 := Lib.hid (Kp.refl w.heap.size (w.alloc (.cells #[.slice a n c, .int .i64 0, .int .u64 0] 53)))
  have HCL : Hid (w.heap.size < (w.alloc (.cells #[.slice a n c, .int .i64 0, .int .u64 0] 53)).heap.size) := Lib.hid (h.cur c).lt
  clear h
  go_enter Tryz.func117, Tryz.ntmps117
  go_wp2_with fail
  refine (H_size.out _ _ HC0.out (by omega)).mono ?_
  rintro e w1 ⟨q, rfl, hc, hk⟩
  have HC1 := Lib.hid hc
  have HK1 := Lib.hid (HK0.out.trans hk)
  clear hc hk HC0 HK0
  go_wp2_with fail
  refine (H_poly.out _ q _ HC1.out (by omega)).mono ?_
  rintro e w2 ⟨v_f, l_f, rfl, hl_f, hr, hc, hk⟩
  have HR_f := Lib.hid hr; clear hr
  have hsz_f : w.heap.size < w1.heap.size := by have := HK1.out.1.size; have := HCL.out; omega
  have HC2 := Lib.hid hc
  have HK2 := Lib.hid (HK1.out.trans hk)
  clear hc hk HC1 HK1
  go_wp2_with fail
  refine (H_poly.out _ q _ HC2.out (by omega)).mono ?_
  rintro e w3 ⟨v_g, l_g, rfl, hl_g, hr, hc, hk⟩
  have HS_f := HR_f.out.kp hk hsz_f
  clear HR_f
  have HR_f := Lib.hid HS_f; clear HS_f
  have HR_g := Lib.hid hr; clear hr
  have hsz_g : w.heap.size < w2.heap.size := by have := HK2.out.1.size; have := HCL.out; omega
  have HC3 := Lib.hid hc
  have HK3 := Lib.hid (HK2.out.trans hk)
  clear hc hk HC2 HK2
  have hst := HK3.out.start
  have hsz := hst.size
  clear HC3
  go_wp2
  go_ret3
  exact ⟨q, v_f, l_f, v_g, l_g, rfl, by omega, HR_f.out.mono (Nat.le_of_lt hsz_f), by omega, HR_g.out.mono (Nat.le_of_lt hsz_g), hst⟩
set_option maxHeartbeats 2000000 in
/-- spec.DrawComposePoly. -/
theorem drawComposePoly_any (a : Option Addr) (n c : Nat) (w : World) (h : Bys w a n) :
    Calls Tryz.prog 30 #[.slice a n c] w fun e w' => ∃ (q : Int) (v_f : Value) (l_f : List Int) (v_g : Value) (l_g : List Int), e = .returned (.tuple #[.int .i64 q, v_f, v_g]) ∧ l_f.length ≤ 48 ∧ Row w' w.heap.size v_f l_f ∧ l_g.length ≤ 48 ∧ Row w' w.heap.size v_g l_g ∧ Below w.heap.size w w' := by
  have HS := Lib.hid (drawPlusPoly_any a n c w h)
  clear h
  go_enter Tryz.func30, Tryz.ntmps30
  go_wp2_with fail
  refine HS.out.mono ?_
  rintro e w1 ⟨q, v_f, l_f, v_g, l_g, rfl, hl_f, hr_f, hl_g, hr_g, hb1⟩
  have HR_f := Lib.hid hr_f; clear hr_f
  have HR_g := Lib.hid hr_g; clear hr_g
  go_wp2
  go_ret3
  exact ⟨q, v_f, l_f, v_g, l_g, rfl, hl_f, HR_f.out, hl_g, HR_g.out, hb1⟩
set_option maxHeartbeats 2000000 in
/-- spec.DrawShiftPoly. -/
theorem drawShiftPoly_any (a : Option Addr) (n c : Nat) (w : World) (h : Bys w a n) :
    Calls Tryz.prog 37 #[.slice a n c] w fun e w' => ∃ (q : Int) (v_f : Value) (l_f : List Int) (x : Int), e = .returned (.tuple #[.int .i64 q, v_f, .int .i64 x]) ∧ l_f.length ≤ 48 ∧ Row w' w.heap.size v_f l_f ∧ Below w.heap.size w w' := by
  have HS := Lib.hid (drawValueAt_any a n c w h)
  clear h
  go_enter Tryz.func37, Tryz.ntmps37
  go_wp2_with fail
  refine HS.out.mono ?_
  rintro e w1 ⟨q, v_f, l_f, x, rfl, hl_f, hr_f, hb1⟩
  have HR_f := Lib.hid hr_f; clear hr_f
  go_wp2
  go_ret3
  exact ⟨q, v_f, l_f, x, rfl, hl_f, HR_f.out, hb1⟩
set_option maxHeartbeats 2000000 in
/-- spec.DrawPowerPoly. -/
theorem drawPowerPoly_any (a : Option Addr) (n c : Nat) (w : World) (h : Bys w a n) :
    Calls Tryz.prog 42 #[.slice a n c] w fun e w' => ∃ (q : Int) (v_f : Value) (l_f : List Int) (x : Int), e = .returned (.tuple #[.int .i64 q, v_f, .int .i64 x]) ∧ l_f.length ≤ 48 ∧ Row w' w.heap.size v_f l_f ∧ Below w.heap.size w w' := by
  have H_poly := Lib.hid (fun k q w' (hc : Cu w' w.heap.size a n c k) (hk : k ≤ 400) => poly_any w.heap.size a n c k q w' hc (by omega))
  have H_size := Lib.hid (fun k w' (hc : Cu w' w.heap.size a n c k) (hk : k ≤ 800) => size_any w.heap.size a n c k w' hc (by omega))
  have H_among8 := Lib.hid (fun k l w' (hc : Cu w' w.heap.size a n c k) (hk : k ≤ 800) (hl : l.length = 8) o ho => among_new w.heap.size a n c k 8 l w' hc (by omega) hl (by omega) (by omega) o ho)
  have HC0 := Lib.hid (h.cur c)
  have HK0 := Lib.hid (Kp.refl w.heap.size (w.alloc (.cells #[.slice a n c, .int .i64 0, .int .u64 0] 53)))
  have HCL : Hid (w.heap.size < (w.alloc (.cells #[.slice a n c, .int .i64 0, .int .u64 0] 53)).heap.size) := Lib.hid (h.cur c).lt
  clear h
  go_enter Tryz.func42, Tryz.ntmps42
  go_wp2_with fail
  refine (H_size.out _ _ HC0.out (by omega)).mono ?_
  rintro e w1 ⟨q, rfl, hc, hk⟩
  have HC1 := Lib.hid hc
  have HK1 := Lib.hid (HK0.out.trans hk)
  clear hc hk HC0 HK0
  go_wp2_with fail
  refine (H_poly.out _ q _ HC1.out (by omega)).mono ?_
  rintro e w2 ⟨v_f, l_f, rfl, hl_f, hr, hc, hk⟩
  have HR_f := Lib.hid hr; clear hr
  have hsz_f : w.heap.size < w1.heap.size := by have := HK1.out.1.size; have := HCL.out; omega
  have HC2 := Lib.hid hc
  have HK2 := Lib.hid (HK1.out.trans hk)
  clear hc hk HC1 HK1
  go_wp2_with fail
  refine (H_among8.out _ [0, 1, 2, 3, 8, 100, 101, -1] _ HC2.out (by omega) rfl _ rfl).mono ?_
  rintro e w3 ⟨x, rfl, hc, hk⟩
  have HS_f := HR_f.out.kp hk hsz_f
  clear HR_f
  have HR_f := Lib.hid HS_f; clear HS_f
  have HC3 := Lib.hid hc
  have HK3 := Lib.hid (HK2.out.trans hk)
  clear hc hk HC2 HK2
  have hst := HK3.out.start
  have hsz := hst.size
  clear HC3
  go_wp2
  go_ret3
  exact ⟨q, v_f, l_f, x, rfl, by omega, HR_f.out.mono (Nat.le_of_lt hsz_f), hst⟩
set_option maxHeartbeats 2000000 in
/-- spec.DrawIterateTable. -/
theorem drawIterateTable_any (a : Option Addr) (n c : Nat) (w : World) (h : Bys w a n) :
    Calls Tryz.prog 46 #[.slice a n c] w fun e w' => ∃ (q : Int) (v_f : Value) (l_f : List Int) (x : Int), e = .returned (.tuple #[.int .i64 q, v_f, .int .i64 x]) ∧ l_f.length ≤ 48 ∧ Row w' w.heap.size v_f l_f ∧ Below w.heap.size w w' := by
  have H_size := Lib.hid (fun k w' (hc : Cu w' w.heap.size a n c k) (hk : k ≤ 800) => size_any w.heap.size a n c k w' hc (by omega))
  have H_table := Lib.hid (fun k q w' (hc : Cu w' w.heap.size a n c k) (hk : k ≤ 400) => table_any w.heap.size a n c k q w' hc (by omega))
  have H_among8 := Lib.hid (fun k l w' (hc : Cu w' w.heap.size a n c k) (hk : k ≤ 800) (hl : l.length = 8) o ho => among_new w.heap.size a n c k 8 l w' hc (by omega) hl (by omega) (by omega) o ho)
  have HC0 := Lib.hid (h.cur c)
  have HK0 := Lib.hid (Kp.refl w.heap.size (w.alloc (.cells #[.slice a n c, .int .i64 0, .int .u64 0] 53)))
  have HCL : Hid (w.heap.size < (w.alloc (.cells #[.slice a n c, .int .i64 0, .int .u64 0] 53)).heap.size) := Lib.hid (h.cur c).lt
  clear h
  go_enter Tryz.func46, Tryz.ntmps46
  go_wp2_with fail
  refine (H_size.out _ _ HC0.out (by omega)).mono ?_
  rintro e w1 ⟨q, rfl, hc, hk⟩
  have HC1 := Lib.hid hc
  have HK1 := Lib.hid (HK0.out.trans hk)
  clear hc hk HC0 HK0
  go_wp2_with fail
  refine (H_table.out _ q _ HC1.out (by omega)).mono ?_
  rintro e w2 ⟨v_f, l_f, rfl, hl_f, hr, hc, hk⟩
  have HR_f := Lib.hid hr; clear hr
  have hsz_f : w.heap.size < w1.heap.size := by have := HK1.out.1.size; have := HCL.out; omega
  have HC2 := Lib.hid hc
  have HK2 := Lib.hid (HK1.out.trans hk)
  clear hc hk HC1 HK1
  go_wp2_with fail
  refine (H_among8.out _ [0, 1, 2, 3, 60, 1000, 1001, -1] _ HC2.out (by omega) rfl _ rfl).mono ?_
  rintro e w3 ⟨x, rfl, hc, hk⟩
  have HS_f := HR_f.out.kp hk hsz_f
  clear HR_f
  have HR_f := Lib.hid HS_f; clear HS_f
  have HC3 := Lib.hid hc
  have HK3 := Lib.hid (HK2.out.trans hk)
  clear hc hk HC2 HK2
  have hst := HK3.out.start
  have hsz := hst.size
  clear HC3
  go_wp2
  go_ret3
  exact ⟨q, v_f, l_f, x, rfl, by omega, HR_f.out.mono (Nat.le_of_lt hsz_f), hst⟩
set_option maxRecDepth 100000 in
set_option maxHeartbeats 8000000 in
/-- spec.DrawReducePoly. -/
theorem drawReducePoly_any (a : Option Addr) (n c : Nat) (w : World) (h : Bys w a n) :
    Calls Tryz.prog 21 #[.slice a n c] w fun e w' => ∃ (q : Int) (v_f : Value) (l_f : List Int), e = .returned (.tuple #[.int .i64 q, v_f]) ∧ l_f.length ≤ 48 ∧ Row w' w.heap.size v_f l_f ∧ Below w.heap.size w w' := by
  obtain ⟨i0, hi, hz0, hz1, hz2⟩ := info_parts Tryz.infoI
  have HCL : Hid (w.heap.size < (w.alloc (.cells #[.slice a n c, .int .i64 0, .int .u64 0] 53)).heap.size) := Lib.hid (h.cur c).lt
  have HSZ0 : Hid ((w.alloc (.cells #[.slice a n c, .int .i64 0, .int .u64 0] 53)).heap.size = w.heap.size + 1) := Lib.hid (by simp)
  have HC0 := Lib.hid (h.cur c)
  have HK0 := Lib.hid (Kp.refl w.heap.size (w.alloc (.cells #[.slice a n c, .int .i64 0, .int .u64 0] 53)))
  have HS := Lib.hid (fun k w' (hc : Cu w' w.heap.size a n c k) (hk : k ≤ 800) => size_any w.heap.size a n c k w' hc (by omega))
  have HO := Lib.hid (fun k m w' (hc : Cu w' w.heap.size a n c k) (hk : k ≤ 800) => one_any w.heap.size a n c k m w' hc (by omega))
  have HP := Lib.hid (fun k m w' (hc : Cu w' w.heap.size a n c k) (hk : k ≤ 800) => pick_any w.heap.size a n c k m w' hc (by omega))
  have HA6 := Lib.hid (fun k (l : List Int) w' (hc : Cu w' w.heap.size a n c k) (hk : k ≤ 800) (hl : l.length = 6) hb o ho => among_max w.heap.size a n c k 6 41 l w' hc (by omega) hl (by omega) (by omega) o ho hb)
  have HA3 := Lib.hid (fun k (l : List Int) w' (hc : Cu w' w.heap.size a n c k) (hk : k ≤ 800) (hl : l.length = 3) o ho => among_new w.heap.size a n c k 3 l w' hc (by omega) hl (by omega) (by omega) o ho)
  have HL := Lib.hid (fun x y w => least_any x y w)
  have HM := Lib.hid (fun x y w => most_any x y w)
  clear h
  go_enter Tryz.func21, Tryz.ntmps21
  go_wp2_with fail
  refine (HS.out _ _ HC0.out (by omega)).mono ?_
  rintro e w1 ⟨q, rfl, hc1, hk1⟩
  have HC1 := Lib.hid hc1
  have HK1 := Lib.hid (HK0.out.trans hk1)
  clear hc1 hk1
  go_wp2_with fail
  refine (HA6.out _ [0, 3, 10, 20, 40, 41] _ HC1.out (by omega) rfl (by intro x hx; simp at hx; omega) _ rfl).mono ?_
  rintro e w2 ⟨r, rfl, hr41, hc2, hk2⟩
  have HC2 := Lib.hid hc2
  have HK2 := Lib.hid (HK1.out.trans hk2)
  clear hc2 hk2
  go_wp2_with fail
  go_loopw [6, 7] (fun vf vk wr => ∃ l : List Int, l.length ≤ 41 ∧ Row wr (w.alloc (.cells #[.slice a n c, .int .i64 0, .int .u64 0] 53)).heap.size vf l ∧ vk = .int .i64 (r - (l.length : Int)) ∧ Cu wr w.heap.size a n c (6 + 2 * l.length) ∧ Kp w.heap.size (w.alloc (.cells #[.slice a n c, .int .i64 0, .int .u64 0] 53)) wr ∧ (w.alloc (.cells #[.slice a n c, .int .i64 0, .int .u64 0] 53)).heap.size ≤ wr.heap.size) (fun _ vk _ => (intOf vk).toNat)
  case atStart => exact ⟨[], Nat.zero_le _, Row.nil _ _, by simp, HC2.out, HK2.out, HK2.out.1.size⟩
  case round =>
    obtain ⟨l, hl, hrow, rfl, hcu, hkp, hszr⟩ := hrel
    obtain ⟨af, cf, rfl⟩ := hrow.sl.form
    have HR := Lib.hid hrow; clear hrow
    have HCu := Lib.hid hcu; clear hcu
    have HKp := Lib.hid hkp; clear hkp
    by_cases h1 : 0 < r - (l.length : Int)
    · have hwr : IntKind.i64.wrap (r - (l.length : Int) - 1) = r - (l.length : Int) - 1 := IntWalk.i64_in _ (by omega)
      go_wp2_with fail
      refine (HL.out _ _ _).mono ?_
      rintro e _ ⟨x, rfl, rfl⟩
      go_wp2_with fail
      refine (HM.out _ _ _).mono ?_
      rintro e _ ⟨y, rfl, rfl⟩
      go_wp2_with fail
      refine (HP.out _ _ _ HCu.out (by omega)).mono ?_
      rintro e w3 ⟨z, rfl, _, _, hc3, hk3⟩
      have HR3 := Lib.hid (HR.out.kp hk3 HCL.out)
      have HC3 := Lib.hid hc3
      have HK3 := Lib.hid (HKp.out.trans hk3)
      have hszA : (w.alloc (.cells #[.slice a n c, .int .i64 0, .int .u64 0] 53)).heap.size ≤ w3.heap.size := by have := hk3.1.size; omega
      clear hc3 hk3
      have hlm : l.length + 1 ≤ maxLen := by unfold maxLen; omega
      go_wp2_with (at_builtin; refine wpList_append_own _ rfl _ _ 24 rfl (w.alloc (.cells #[.slice a n c, .int .i64 0, .int .u64 0] 53)).heap.size 3 i0 (.int .i64 0) 1 8 Tryz.underlying24 hi hz0 hz1 hz2 rfl (by decide) _ _ _ rfl (World.ownsRow.alloc HR3.out _) ⟨w3.heap.size, 0, none⟩ 1 1 [.int .i64 z] rfl rfl ?c1 ?c2 ?c3 ?c4 ?c5 ?_)
      case c1 => exact cell_one_new _ _ _
      case c2 => intro u hu; simp at hu; subst hu; rfl
      case c3 => exact hlm
      case c4 => omega
      case c5 => have hz9 := HSZ0.out; simp; omega
      intro v' wA hown hgrow _
      have HRA := Lib.hid (Row.appended hown)
      have HBA : Hid (Below (w.alloc (.cells #[.slice a n c, .int .i64 0, .int .u64 0] 53)).heap.size w3 wA) := Lib.hid (((Below.refl _ _).alloc hszA (.cells #[.int .i64 z] 3)).grown hgrow (by have hz9 := HSZ0.out; simp; omega) (fun g hg => (HR3.out.lt g hg).1))
      clear hown hgrow
      have HC4 := Lib.hid (Cu.own HC0.out HC3.out HBA.out)
      have HK4 := Lib.hid (HK3.out.own (Nat.le_of_lt HCL.out) rfl HBA.out)
      have hszB := HBA.out.size
      go_wp2
      go_roundw
      case rel => exact ⟨l ++ [z], by rw [List.length_append]; simp; omega, by first | exact HRA.out | (have hz9 := HRA.out; rwa [← HSZ0.out] at hz9), by rw [List.length_append]; simp; omega, by rw [List.length_append]; exact HC4.out, HK4.out, by omega⟩
      case measure => simp [intOf]; omega
    · by_cases h2 : 0 < l.length
      · obtain ⟨g, cap, e, hgB, hgl⟩ := HR.out.form h2
        cases e
        have h2' : (0 : Int) < (l.length : Int) := by omega
        go_wp2_with fail
        refine (HO.out _ 14 _ HCu.out (by omega)).mono ?_
        rintro e w3 ⟨b, rfl, hc3, hk3⟩
        have HR3 := Lib.hid (HR.out.kp hk3 HCL.out)
        have HC3 := Lib.hid hc3
        have HK3 := Lib.hid (HKp.out.trans hk3)
        have hgl3 : g < w3.heap.size := by have := hk3.1.size; omega
        clear hc3 hk3
        cases b with
        | false =>
          go_wp2
          go_ret2
          exact ⟨q, _, l, rfl, by omega, HR3.out.mono (Nat.le_of_lt HCL.out), HK3.out.start⟩
        | true =>
          go_wp2_with fail
          refine (HP.out _ (l.length : Int) _ HC3.out (by omega)).mono ?_
          rintro e w4 ⟨z, rfl, hz1, hz, hc4, hk4⟩
          obtain ⟨z, rfl⟩ : ∃ i : Nat, z = (i : Int) := by
            by_cases h3 : 1 < (l.length : Int)
            · exact Int.eq_ofNat_of_zero_le (hz h3).1
            · exact ⟨0, hz1 (by omega)⟩
          have hzl : z < l.length := by
            by_cases h3 : 1 < (l.length : Int)
            · have := (hz h3).2; omega
            · have := hz1 (by omega); omega
          have HR4 := Lib.hid (HR3.out.kp hk4 HCL.out)
          have HC4 := Lib.hid hc4
          have HK4 := Lib.hid (HK3.out.trans hk4)
          have hgl4 : g < w4.heap.size := by have := hk4.1.size; omega
          clear hc4 hk4 hz hz1
          go_wp2_with fail
          refine (HA3.out _ [-1, q, 4611686018427387904] _ HC4.out (by omega) rfl _ rfl).mono ?_
          rintro e w5 ⟨y, rfl, hc5, hk5⟩
          have HR5 := Lib.hid (HR4.out.kp hk5 HCL.out)
          have HK5 := Lib.hid (HK4.out.trans hk5)
          have hgl5 : g < w5.heap.size := by have := hk5.1.size; omega
          have c5 := HR5.out.cell z hzl
          have f5 := HR5.out.frozen rfl z
          clear hc5 hk5
          go_wp2
          go_ret2
          have hb6 : Below (w.alloc (.cells #[.slice a n c, .int .i64 0, .int .u64 0] 53)).heap.size w5 (w5.setCell ⟨g, z, none⟩ (.int .i64 y)) := Below.setCell (Below.refl _ _) (by have hz9 := HSZ0.out; simp; omega) _
          exact ⟨q, _, l.set z y, rfl, by rw [List.length_set]; omega, (HR5.out.store rfl z y).mono (Nat.le_of_lt HCL.out), (HK5.out.own (Nat.le_of_lt HCL.out) rfl hb6).start⟩
      · obtain rfl : l = [] := List.length_eq_zero_iff.1 (by omega)
        go_wp2_with fail
        go_ret2
        exact ⟨q, _, rfl, [], by simp, HR.out.mono (Nat.le_of_lt HCL.out), HKp.out.start⟩
set_option maxRecDepth 100000 in
set_option maxHeartbeats 8000000 in
/-- spec.DrawIsPoly. -/
theorem drawIsPoly_any (a : Option Addr) (n c : Nat) (w : World) (h : Bys w a n) :
    Calls Tryz.prog 28 #[.slice a n c] w fun e w' => ∃ (q : Int) (v_f : Value) (l_f : List Int), e = .returned (.tuple #[.int .i64 q, v_f]) ∧ l_f.length ≤ 48 ∧ Row w' w.heap.size v_f l_f ∧ Below w.heap.size w w' := by
  obtain ⟨i0, hi, hz0, hz1, hz2⟩ := info_parts Tryz.infoI
  have HCL : Hid (w.heap.size < (w.alloc (.cells #[.slice a n c, .int .i64 0, .int .u64 0] 53)).heap.size) := Lib.hid (h.cur c).lt
  have HSZ0 : Hid ((w.alloc (.cells #[.slice a n c, .int .i64 0, .int .u64 0] 53)).heap.size = w.heap.size + 1) := Lib.hid (by simp)
  have HC0 := Lib.hid (h.cur c)
  have HK0 := Lib.hid (Kp.refl w.heap.size (w.alloc (.cells #[.slice a n c, .int .i64 0, .int .u64 0] 53)))
  have HS := Lib.hid (fun k w' (hc : Cu w' w.heap.size a n c k) (hk : k ≤ 800) => size_any w.heap.size a n c k w' hc (by omega))
  have HO := Lib.hid (fun k m w' (hc : Cu w' w.heap.size a n c k) (hk : k ≤ 800) => one_any w.heap.size a n c k m w' hc (by omega))
  have HP := Lib.hid (fun k m w' (hc : Cu w' w.heap.size a n c k) (hk : k ≤ 800) => pick_any w.heap.size a n c k m w' hc (by omega))
  have HPO := Lib.hid (fun k q w' (hc : Cu w' w.heap.size a n c k) (hk : k ≤ 400) => poly_any w.heap.size a n c k q w' hc (by omega))
  clear h
  go_enter Tryz.func28, Tryz.ntmps28
  go_wp2_with fail
  refine (HS.out _ _ HC0.out (by omega)).mono ?_
  rintro e w1 ⟨q, rfl, hc1, hk1⟩
  have HC1 := Lib.hid hc1
  have HK1 := Lib.hid (HK0.out.trans hk1)
  have hsz1 : (w.alloc (.cells #[.slice a n c, .int .i64 0, .int .u64 0] 53)).heap.size ≤ w1.heap.size := hk1.1.size
  clear hc1 hk1
  go_wp2_with fail
  refine (HPO.out _ q _ HC1.out (by omega)).mono ?_
  rintro e w2 ⟨v, l, rfl, hl, hr, hc2, hk2⟩
  have HR2 := Lib.hid (hr.mono hsz1)
  have HC2 := Lib.hid hc2
  have HK2 := Lib.hid (HK1.out.trans hk2)
  clear hr hc2 hk2
  go_wp2_with fail
  refine (HO.out _ 16 _ HC2.out (by omega)).mono ?_
  rintro e w3 ⟨b, rfl, hc3, hk3⟩
  have HR3 := Lib.hid (HR2.out.kp hk3 HCL.out)
  have HC3 := Lib.hid hc3
  have HK3 := Lib.hid (HK2.out.trans hk3)
  clear hc3 hk3
  cases b with
  | false =>
    go_wp2
    go_ret2
    exact ⟨q, v, l, rfl, by omega, HR3.out.mono (Nat.le_of_lt HCL.out), HK3.out.start⟩
  | true =>
    obtain ⟨L0, hL0⟩ : ∃ L0, L0 = l.length := ⟨_, rfl⟩
    go_wp2_with fail
    go_loopw [6] (fun vf wr => ∃ (j : Nat) (r : List Int), r.length ≤ 42 ∧ r.length = L0 + j ∧ Row wr (w.alloc (.cells #[.slice a n c, .int .i64 0, .int .u64 0] 53)).heap.size vf r ∧ Cu wr w.heap.size a n c (86 + 2 * j) ∧ Kp w.heap.size (w.alloc (.cells #[.slice a n c, .int .i64 0, .int .u64 0] 53)) wr) (fun vf _ => 50 - (match vf with | .slice _ n _ => n | _ => 0))
    case atStart => exact ⟨0, l, by omega, hL0.symm, HR3.out, HC3.out.mono (by omega), HK3.out⟩
    case round =>
      obtain ⟨j, r, hrl, hrj, hrow, hcu, hkp⟩ := hrel
      have HJ := Lib.hid hrj; clear hrj
      have HL0 := Lib.hid hL0; clear hL0
      obtain ⟨ag, cg, rfl⟩ := hrow.sl.form
      have HR := Lib.hid hrow; clear hrow
      have HCu := Lib.hid hcu; clear hcu
      have HKp := Lib.hid hkp; clear hkp
      have hj42 : j ≤ 42 := by have := HJ.out; omega
      go_wp2_with fail
      refine (HP.out _ _ _ HCu.out (by omega)).mono ?_
      rintro e w6 ⟨z, rfl, _, hz, hc6, hk6⟩
      obtain ⟨z0, z1⟩ := hz (by omega)
      have HR6 := Lib.hid (HR.out.kp hk6 HCL.out)
      have HC6 := Lib.hid hc6
      have HK6 := Lib.hid (HKp.out.trans hk6)
      have hszA : (w.alloc (.cells #[.slice a n c, .int .i64 0, .int .u64 0] 53)).heap.size ≤ w6.heap.size := HK6.out.1.size
      clear hc6 hk6 hz
      have hwz : IntKind.i64.wrap (40 + z) = 40 + z := IntWalk.i64_in _ (by omega)
      have hlm : r.length + 1 ≤ maxLen := by unfold maxLen; omega
      by_cases hlt : (r.length : Int) < 40 + z
      ·
        go_wp2_with (at_builtin; refine wpList_append_own _ rfl _ _ 24 rfl (w.alloc (.cells #[.slice a n c, .int .i64 0, .int .u64 0] 53)).heap.size 3 i0 (.int .i64 0) 1 8 Tryz.underlying24 hi hz0 hz1 hz2 rfl (by decide) _ _ _ rfl (World.ownsRow.alloc HR6.out _) ⟨w6.heap.size, 0, none⟩ 1 1 [.int .i64 0] rfl rfl ?d1 ?d2 ?d3 ?d4 ?d5 ?_)
        case d1 => exact cell_one_new _ _ _
        case d2 => intro u hu; simp at hu; subst hu; rfl
        case d3 => exact hlm
        case d4 => omega
        case d5 => have hz9 := HSZ0.out; simp; omega
        intro v' wA hown hgrow _
        have HRA := Lib.hid (Row.appended hown)
        have HBA : Hid (Below (w.alloc (.cells #[.slice a n c, .int .i64 0, .int .u64 0] 53)).heap.size w6 wA) := Lib.hid (((Below.refl _ _).alloc hszA (.cells #[.int .i64 0] 3)).grown hgrow (by have hz9 := HSZ0.out; simp; omega) (fun g hg => (HR6.out.lt g hg).1))
        clear hown hgrow
        have HC7 := Lib.hid (Cu.own HC0.out HC6.out HBA.out)
        have HK7 := Lib.hid (HK6.out.own (Nat.le_of_lt HCL.out) rfl HBA.out)
        go_wp2
        go_roundw
        case rel => exact ⟨j + 1, r ++ [0], by rw [List.length_append]; simp; omega, by have := HJ.out; rw [List.length_append]; simp; omega, by first | exact HRA.out | (have hz9 := HRA.out; rwa [← HSZ0.out] at hz9), HC7.out.mono (by omega), HK7.out⟩
        case measure =>
          obtain ⟨b7, d7, rfl⟩ := HRA.out.sl.form
          rw [List.length_append]
          simp
          omega
      · go_wp2
        go_ret2
        exact ⟨q, _, r, rfl, by omega, HR6.out.mono (Nat.le_of_lt HCL.out), HK6.out.start⟩
end Go.Proofs.YtljijnanmpajaaaGreat
