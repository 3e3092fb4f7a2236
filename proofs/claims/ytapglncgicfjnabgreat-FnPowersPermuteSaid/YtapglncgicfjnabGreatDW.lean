/- The draws of the law of Dickson's values, by contracts: some numbers. -/
import Derived.Test.YtapglncgicfjnabGreatDR
namespace Go.Proofs.YtapglncgicfjnabGreat
open Go.RowKit
theorem results_tmp4 {fn : Func} {t u v x : Tmp} (h : fn.results = #[.tmp t, .tmp u, .tmp v, .tmp x]) (tmps : Array Value) (P : Program) (w : World) :
    (results fn tmps).run P w = .ok (.tuple #[tmps.getD t undef, tmps.getD u undef, tmps.getD v undef, tmps.getD x undef]) w := by
  simp [results, h]
set_option maxHeartbeats 1000000 in
/-- spec.l1Cur.exponent. -/
theorem exponent_any (cb : Nat) (a : Option Addr) (n c k : Nat) (w : World) (h : Cu w cb a n c k) (hk : k ≤ 999900) :
    Calls Tryz.prog 174 #[.pointer (some ⟨cb, 0, none⟩)] w fun e w' => ∃ r : Int, e = .returned (.int .i64 r) ∧ Cu w' cb a n c (k + 4) ∧ Kp cb w w' := by
  have hcl : ∀ w, Cu w cb a n c (k + 2) → cb < w.heap.size := fun w h => by obtain ⟨_, ⟨_, _, hc, _⟩, _⟩ := h; exact (Array.getElem?_eq_some_iff.1 hc).1
  have HO := Lib.hid (one_any cb a n c k 12 w h (by omega))
  have HP := Lib.hid (fun w m (h : Cu w cb a n c (k + 2)) => pick_any cb a n c (k + 2) m w h (by omega))
  have HA := Lib.hid (fun o w (h : Cu w cb a n c (k + 2)) (ho : o = Obj.cells (([-1, 0, 400, 401] : List Int).map (Value.int .i64)).toArray 3 (0, 0)) => among_any cb w.heap.size a n c (k + 2) 4 4 [-1, 0, 400, 401] 3 (w.alloc o) (h.kp (Below.alloc (Below.refl _ _) (Nat.le_refl _) _)) (by omega) (by rw [heap_alloc_new, ho]) (by have := hcl w h; omega) rfl (by omega) (by omega))
  have HB : Hid (∀ w o, Cu w cb a n c (k + 2) → Kp cb w (w.alloc o)) := Lib.hid fun w o h => Kp.below (Below.alloc (Below.refl _ _) (Nat.le_refl _) _) (by have := hcl w h; omega)
  clear h hcl
  go_enter Tryz.func174, Tryz.ntmps174
  go_wp2_with fail
  refine HO.out.mono ?_
  rintro e w1 ⟨b, rfl, hc1, hk1⟩
  have HC1 := Lib.hid hc1
  have HK1 := Lib.hid hk1
  clear hc1 hk1
  cases b
  · go_wp2_with fail
    refine (HP.out _ _ HC1.out).mono ?_
    rintro e w2 ⟨r, rfl, _, _, hc2, hk2⟩
    have HC2 := Lib.hid hc2
    have HK2 := Lib.hid hk2
    clear hc2 hk2
    go_wp2
    go_ret
    exact ⟨_, rfl, HC2.out, HK1.out.trans HK2.out⟩
  · go_wp2_with fail
    refine (HA.out _ _ HC1.out rfl).mono ?_
    rintro e w2 ⟨i, _, rfl, hc2, hk2⟩
    have HC2 := Lib.hid hc2
    have HK2 : Hid (Kp cb w w2) := Lib.hid ((HK1.out.trans (HB.out _ _ HC1.out)).trans hk2)
    clear hc2 hk2
    go_wp2
    go_ret
    exact ⟨_, rfl, HC2.out, HK2.out⟩
end Go.Proofs.YtapglncgicfjnabGreat
