/- The draws of the law of Dickson's values, by contracts: some numbers. -/
import Derived.Test.YteclpkicebdfpaaDR
namespace Go.Proofs.Yteclpkicebdfpaa
open Go.RowKit
theorem results_tmp4 {fn : Func} {t u v x : Tmp} (h : fn.results = #[.tmp t, .tmp u, .tmp v, .tmp x]) (tmps : Array Value) (P : Program) (w : World) :
    (results fn tmps).run P w = .ok (.tuple #[tmps.getD t undef, tmps.getD u undef, tmps.getD v undef, tmps.getD x undef]) w := by
  simp [results, h]
set_option maxHeartbeats 1000000 in
/-- spec.l1Cur.exponent. -/
theorem exponent_any (cb : Nat) (a : Option Addr) (n c k : Nat) (w : World) (h : Cu w cb a n c k) (hk : k ≤ 999900) :
    Calls Try.prog 38 #[.pointer (some ⟨cb, 0, none⟩)] w fun e w' => ∃ r : Int, e = .returned (.int .i64 r) ∧ Cu w' cb a n c (k + 4) ∧ Kp cb w w' := by
  have hcl : ∀ w, Cu w cb a n c (k + 2) → cb < w.heap.size := fun w h => by obtain ⟨_, ⟨_, _, hc, _⟩, _⟩ := h; exact (Array.getElem?_eq_some_iff.1 hc).1
  have HO := Lib.hid (one_any cb a n c k 12 w h (by omega))
  have HP := Lib.hid (fun w m (h : Cu w cb a n c (k + 2)) => pick_any cb a n c (k + 2) m w h (by omega))
  have HA := Lib.hid (fun o w (h : Cu w cb a n c (k + 2)) (ho : o = Obj.cells (([-1, 0, 400, 401] : List Int).map (Value.int .i64)).toArray 3 (0, 0)) => among_any cb w.heap.size a n c (k + 2) 4 4 [-1, 0, 400, 401] 3 (w.alloc o) (h.kp (Below.alloc (Below.refl _ _) (Nat.le_refl _) _)) (by omega) (by rw [heap_alloc_new, ho]) (by have := hcl w h; omega) rfl (by omega) (by omega))
  have HB : Hid (∀ w o, Cu w cb a n c (k + 2) → Kp cb w (w.alloc o)) := Lib.hid fun w o h => Kp.below (Below.alloc (Below.refl _ _) (Nat.le_refl _) _) (by have := hcl w h; omega)
  clear h hcl
  go_enter Try.func38, Try.ntmps38
  go_wp2_with fail
  refine HO.out.mono ?_
  rintro e w1 ⟨b, rfl, hc1, hk1⟩
  have HC1 := Lib.hid hc1
  have HK1 := Lib.hid hk1
  clear hc1 hk1
  cases b
  · go_wp2_with fail
    refine (HP.out _ _ HC1.out).mono ?_
    rintro e w2 ⟨r, rfl, _, _, hc2, hk2⟩
    have HC2 := Lib.hid hc2
    have HK2 := Lib.hid hk2
    clear hc2 hk2
    go_wp2
    go_ret
    exact ⟨_, rfl, HC2.out, HK1.out.trans HK2.out⟩
  · go_wp2_with fail
    refine (HA.out _ _ HC1.out rfl).mono ?_
    rintro e w2 ⟨i, _, rfl, hc2, hk2⟩
    have HC2 := Lib.hid hc2
    have HK2 : Hid (Kp cb w w2) := Lib.hid ((HK1.out.trans (HB.out _ _ HC1.out)).trans hk2)
    clear hc2 hk2
    go_wp2
    go_ret
    exact ⟨_, rfl, HC2.out, HK2.out⟩
set_option maxHeartbeats 2000000 in
/-- spec.DrawDicksonAt. -/
theorem drawDicksonAt_any (a : Option Addr) (n c : Nat) (w : World) (h : Bys w a n) :
    Calls Try.prog 6 #[.slice a n c] w fun e w' => ∃ q n' b y : Int, e = .returned (.tuple #[.int .i64 q, .int .i64 n', .int .i64 b, .int .i64 y]) ∧ Below w.heap.size w w' := by
  have HS := Lib.hid (size_any w.heap.size a n c 0 _ (h.cur c) (by omega))
  have HE := Lib.hid (fun k q w' (hc : Cu w' w.heap.size a n c k) (hk : k ≤ 900) => elem_any w.heap.size a n c k q w' hc (by omega))
  have HX := Lib.hid (fun k w' (hc : Cu w' w.heap.size a n c k) (hk : k ≤ 900) => exponent_any w.heap.size a n c k w' hc (by omega))
  have HP := Lib.hid (fun k m w' (hc : Cu w' w.heap.size a n c k) (hk : k ≤ 900) => pick_any w.heap.size a n c k m w' hc (by omega))
  clear h
  go_enter Try.func6, Try.ntmps6
  go_wp2_with fail
  refine HS.out.mono ?_
  rintro e w1 ⟨q, rfl, hc1, hk1⟩
  have HC1 := Lib.hid hc1
  have HK1 := Lib.hid hk1
  clear hk1 hc1
  go_wp2_with fail
  refine (HX.out _ _ HC1.out (by omega)).mono ?_
  rintro e w2 ⟨x2, rfl, hc2, hk2⟩
  have HC2 := Lib.hid hc2
  have HK2 := Lib.hid (HK1.out.trans hk2)
  clear hk2 hc2
  go_wp2_with fail
  refine (HE.out _ q _ HC2.out (by omega)).mono ?_
  rintro e w3 ⟨x3, rfl, hc3, hk3⟩
  have HC3 := Lib.hid hc3
  have HK3 := Lib.hid (HK2.out.trans hk3)
  clear hk3 hc3
  go_wp2_with fail
  refine (HE.out _ q _ HC3.out (by omega)).mono ?_
  rintro e w4 ⟨x4, rfl, hc4, hk4⟩
  have HC4 := Lib.hid hc4
  have HK4 := Lib.hid (HK3.out.trans hk4)
  clear hk4 hc4
  go_wp2
  (try simp only [Exit.inBlock, Exit.then])
  refine bodyPost_ret (results_tmp4 rfl _ _ _) rfl ?_
  exact ⟨_, _, _, _, rfl, HK4.out.start⟩
set_option maxHeartbeats 2000000 in
/-- spec.DrawJoinDickson. -/
theorem drawJoinDickson_any (a : Option Addr) (n c : Nat) (w : World) (h : Bys w a n) :
    Calls Try.prog 14 #[.slice a n c] w fun e w' => ∃ q m k b : Int, e = .returned (.tuple #[.int .i64 q, .int .i64 m, .int .i64 k, .int .i64 b]) ∧ Below w.heap.size w w' := by
  have HS := Lib.hid (size_any w.heap.size a n c 0 _ (h.cur c) (by omega))
  have HE := Lib.hid (fun k q w' (hc : Cu w' w.heap.size a n c k) (hk : k ≤ 900) => elem_any w.heap.size a n c k q w' hc (by omega))
  have HX := Lib.hid (fun k w' (hc : Cu w' w.heap.size a n c k) (hk : k ≤ 900) => exponent_any w.heap.size a n c k w' hc (by omega))
  have HP := Lib.hid (fun k m w' (hc : Cu w' w.heap.size a n c k) (hk : k ≤ 900) => pick_any w.heap.size a n c k m w' hc (by omega))
  clear h
  go_enter Try.func14, Try.ntmps14
  go_wp2_with fail
  refine HS.out.mono ?_
  rintro e w1 ⟨q, rfl, hc1, hk1⟩
  have HC1 := Lib.hid hc1
  have HK1 := Lib.hid hk1
  clear hk1 hc1
  go_wp2_with fail
  refine (HP.out _ 23 _ HC1.out (by omega)).mono ?_
  rintro e w2 ⟨x2, rfl, _, hp2, hc2, hk2⟩
  have hp2 := hp2 (by omega)
  have HC2 := Lib.hid hc2
  have HK2 := Lib.hid (HK1.out.trans hk2)
  clear hk2 hc2
  go_wp2_with fail
  refine (HP.out _ 8 _ HC2.out (by omega)).mono ?_
  rintro e w3 ⟨x3, rfl, _, hp3, hc3, hk3⟩
  have hp3 := hp3 (by omega)
  have HC3 := Lib.hid hc3
  have HK3 := Lib.hid (HK2.out.trans hk3)
  clear hk3 hc3
  go_wp2_with fail
  refine (HP.out _ 16 _ HC3.out (by omega)).mono ?_
  rintro e w4 ⟨x4, rfl, _, hp4, hc4, hk4⟩
  have hp4 := hp4 (by omega)
  have HC4 := Lib.hid hc4
  have HK4 := Lib.hid (HK3.out.trans hk4)
  clear hk4 hc4
  go_wp2_with fail
  refine (HE.out _ q _ HC4.out (by omega)).mono ?_
  rintro e w5 ⟨x5, rfl, hc5, hk5⟩
  have HC5 := Lib.hid hc5
  have HK5 := Lib.hid (HK4.out.trans hk5)
  clear hk5 hc5
  go_wp2
  (try simp only [Exit.inBlock, Exit.then])
  refine bodyPost_ret (results_tmp4 rfl _ _ _) rfl ?_
  exact ⟨_, _, _, _, rfl, HK5.out.start⟩
end Go.Proofs.Yteclpkicebdfpaa
