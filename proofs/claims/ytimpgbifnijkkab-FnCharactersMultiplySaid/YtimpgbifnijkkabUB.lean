/- The draws of the law of sums by formulas, by contracts: some numbers. -/
import Derived.Test.YtimpgbifnijkkabDR
import Derived.Test.YtimpgbifnijkkabTB
namespace Go.Proofs.Ytimpgbifnijkkab
open Go.RowKit
theorem results_tmp4U {fn : Func} {t u v x : Tmp} (h : fn.results = #[.tmp t, .tmp u, .tmp v, .tmp x]) (tmps : Array Value) (P : Program) (w : World) :
    (results fn tmps).run P w = .ok (.tuple #[tmps.getD t undef, tmps.getD u undef, tmps.getD v undef, tmps.getD x undef]) w := by
  simp [results, h]
theorem Cu.lt {w : World} {cb : Nat} {a : Option Addr} {n c k : Nat} (h : Cu w cb a n c k) : cb < w.heap.size := by obtain ⟨_, ⟨_, _, hc, _⟩, _⟩ := h; exact (Array.getElem?_eq_some_iff.1 hc).1
theorem Cu.allocs {w : World} {cb : Nat} {a : Option Addr} {n c k : Nat} (h : Cu w cb a n c k) (o : Obj) : Kp cb w (w.alloc o) := Kp.below (Below.alloc (Below.refl _ _) (Nat.le_refl _) _) (by have := h.lt; omega)
/-- spec.l1Cur.among, of a list made on the spot. -/
theorem among_new (cb : Nat) (a : Option Addr) (n c k len : Nat) (l : List Int) (w : World) (h : Cu w cb a n c k) (hk : k ≤ 900) (hl : l.length = len) (h0 : 1 ≤ len) (h1 : len ≤ 1000) (o : Obj) (ho : o = Obj.cells ((l.map (Value.int .i64)).toArray) 3 (0, 0)) :
    Calls Try.prog 100 #[.pointer (some ⟨cb, 0, none⟩), .slice (some ⟨w.heap.size, 0, none⟩) len len] (w.alloc o) fun e w' => ∃ r : Int, e = .returned (.int .i64 r) ∧ Cu w' cb a n c (k + 2) ∧ Kp cb w w' := by
  refine (among_any cb w.heap.size a n c k len len l 3 (w.alloc o) (h.kp (Below.alloc (Below.refl _ _) (Nat.le_refl _) _)) (by omega) (by rw [heap_alloc_new, ho]) (by have := h.lt; omega) hl h0 h1).mono ?_
  rintro e w' ⟨i, _, rfl, hc, hk⟩
  exact ⟨_, rfl, hc, (h.allocs o).trans hk⟩
set_option maxHeartbeats 2000000 in
/-- spec.l1Cur.odd. -/
theorem odd_any (cb : Nat) (a : Option Addr) (n c k : Nat) (w : World) (h : Cu w cb a n c k) (hk : k ≤ 800) :
    Calls Try.prog 55 #[.pointer (some ⟨cb, 0, none⟩)] w fun e w' => ∃ r : Int, e = .returned (.int .i64 r) ∧ Cu w' cb a n c (k + 6) ∧ Kp cb w w' := by
  have HO := Lib.hid (one_any cb a n c k 8 w h (by omega))
  have HS := Lib.hid (fun w (h : Cu w cb a n c (k + 2)) => size_any cb a n c (k + 2) w h (by omega))
  have HA := Lib.hid (fun o w (h : Cu w cb a n c (k + 2)) => among_new cb a n c (k + 2) 6 [3, 5, 7, 9, 11, 13] w h (by omega) rfl (by omega) (by omega) o)
  clear h
  go_enter Try.func55, Try.ntmps55
  go_wp2_with fail
  refine HO.out.mono ?_
  rintro e w1 ⟨b, rfl, hc1, hk1⟩
  have HC1 := Lib.hid hc1
  have HK1 := Lib.hid hk1
  clear hc1 hk1
  cases b
  · go_wp2_with fail
    refine (HA.out _ _ HC1.out rfl).mono ?_
    rintro e w2 ⟨r, rfl, hc2, hk2⟩
    have HC2 := Lib.hid hc2
    have HK2 := Lib.hid hk2
    clear hc2 hk2
    go_wp2
    go_ret
    exact ⟨_, rfl, HC2.out.mono (by omega), HK1.out.trans HK2.out⟩
  · go_wp2_with fail
    refine (HS.out _ HC1.out).mono ?_
    rintro e w2 ⟨r, rfl, hc2, hk2⟩
    have HC2 := Lib.hid hc2
    have HK2 := Lib.hid hk2
    clear hc2 hk2
    go_wp2
    go_ret
    exact ⟨_, rfl, HC2.out, HK1.out.trans HK2.out⟩
set_option maxHeartbeats 2000000 in
/-- spec.DrawCharacterOf. -/
theorem drawCharacterOf_any (a : Option Addr) (n c : Nat) (w : World) (h : Bys w a n) :
    Calls Try.prog 24 #[.slice a n c] w fun e w' => ∃ q x : Int, e = .returned (.tuple #[.int .i64 q, .int .i64 x]) ∧ Below w.heap.size w w' := by
  have HS := Lib.hid (odd_any w.heap.size a n c 0 _ (h.cur c) (by omega))
  have HE := Lib.hid (fun k q w' (hc : Cu w' w.heap.size a n c k) (hk : k ≤ 800) => elem_any w.heap.size a n c k q w' hc (by omega))
  clear h
  go_enter Try.func24, Try.ntmps24
  go_wp2_with fail
  refine (HS.out).mono ?_
  rintro e w1 ⟨q, rfl, hc1, hk1⟩
  have HC1 := Lib.hid hc1
  have HK1 := Lib.hid hk1
  clear hk1 hc1
  go_wp2_with fail
  refine (HE.out _ q _ HC1.out (by omega)).mono ?_
  rintro e w2 ⟨x, rfl, hc2, hk2⟩
  have HC2 := Lib.hid hc2
  have HK2 := Lib.hid (HK1.out.trans hk2)
  clear hk2 hc2
  go_wp2
  go_ret2
  exact ⟨q, x, rfl, HK2.out.start⟩
end Go.Proofs.Ytimpgbifnijkkab
