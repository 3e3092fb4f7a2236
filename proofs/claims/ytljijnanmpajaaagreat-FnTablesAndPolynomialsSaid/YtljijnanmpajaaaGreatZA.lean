/- What the draws and the walks of general laws share. -/
import Derived.Test.YtljijnanmpajaaaGreatDR
namespace Go.Proofs.YtljijnanmpajaaaGreat
open Go.RowKit
theorem results_tmp4U {fn : Func} {t u v x : Tmp} (h : fn.results = #[.tmp t, .tmp u, .tmp v, .tmp x]) (tmps : Array Value) (P : Program) (w : World) :
    (results fn tmps).run P w = .ok (.tuple #[tmps.getD t undef, tmps.getD u undef, tmps.getD v undef, tmps.getD x undef]) w := by
  simp [results, h]
theorem Cu.lt {w : World} {cb : Nat} {a : Option Addr} {n c k : Nat} (h : Cu w cb a n c k) : cb < w.heap.size := by obtain ⟨_, ⟨_, _, hc, _⟩, _⟩ := h; exact (Array.getElem?_eq_some_iff.1 hc).1
theorem Cu.allocs {w : World} {cb : Nat} {a : Option Addr} {n c k : Nat} (h : Cu w cb a n c k) (o : Obj) : Kp cb w (w.alloc o) := Kp.below (Below.alloc (Below.refl _ _) (Nat.le_refl _) _) (by have := h.lt; omega)
/-- spec.l1Cur.among, of a list made on the spot. -/
theorem among_new (cb : Nat) (a : Option Addr) (n c k len : Nat) (l : List Int) (w : World) (h : Cu w cb a n c k) (hk : k ≤ 900) (hl : l.length = len) (h0 : 1 ≤ len) (h1 : len ≤ 1000) (o : Obj) (ho : o = Obj.cells ((l.map (Value.int .i64)).toArray) 3 (0, 0)) :
    Calls Tryz.prog 103 #[.pointer (some ⟨cb, 0, none⟩), .slice (some ⟨w.heap.size, 0, none⟩) len len] (w.alloc o) fun e w' => ∃ r : Int, e = .returned (.int .i64 r) ∧ Cu w' cb a n c (k + 2) ∧ Kp cb w w' := by
  refine (among_any cb w.heap.size a n c k len len l 3 (w.alloc o) (h.kp (Below.alloc (Below.refl _ _) (Nat.le_refl _) _)) (by omega) (by rw [heap_alloc_new, ho]) (by have := h.lt; omega) hl h0 h1).mono ?_
  rintro e w' ⟨i, _, rfl, hc, hk⟩
  exact ⟨_, rfl, hc, (h.allocs o).trans hk⟩
theorem stp {a b c : World} (h : Below a.heap.size a b) (h2 : Below b.heap.size b c) : Below a.heap.size a c := h.trans (h2.mono h.size)
theorem stpNew {a b c : World} {o : Obj} (h : Below a.heap.size a b) (h2 : Below (b.alloc o).heap.size (b.alloc o) c) : Below a.heap.size a c :=
  (h.trans ((Below.alloc (Below.refl _ _) (Nat.le_refl _) o).mono h.size)).trans (h2.mono (by have := h.size; simp; omega))
end Go.Proofs.YtljijnanmpajaaaGreat
