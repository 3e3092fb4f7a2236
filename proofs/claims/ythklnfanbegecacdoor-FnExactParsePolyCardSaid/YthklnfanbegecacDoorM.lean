/- impl.element.times by a contract. -/
import Derived.Test.YthklnfanbegecacDoorJ
import Derived.Deep.RegionWith
namespace Go.Proofs.YthklnfanbegecacDoor
open Go.RowKit
/-- Seven stores: a whole element. -/
abbrev put7 (w : World) (b : Nat) (q a : Int) : World :=
  ((((((w.setCell ⟨b, 0, none⟩ (.int .i64 q)).setCell ⟨b, 1, none⟩ (.int .i64 (pr q))).setCell ⟨b, 2, none⟩ (.int .i64 (pl q))).setCell ⟨b, 3, none⟩ (.int .i64 (dg q a 0))).setCell ⟨b, 4, none⟩ (.int .i64 (dg q a 1))).setCell ⟨b, 5, none⟩ (.int .i64 (dg q a 2))).setCell ⟨b, 6, none⟩ (.int .i64 (dg q a 3))
theorem put7_other (w : World) (b : Nat) (q a : Int) (k : Nat) (h : k ≠ b) : (put7 w b q a).heap[k]? = w.heap[k]? := by
  unfold put7
  iterate 7 rw [heap_setCell_other _ _ _ _ h]
theorem put7_below {B : Nat} {w0 w : World} (hb : Below B w0 w) (b : Nat) (h : B ≤ b) (q a : Int) : Below B w0 (put7 w b q a) := by
  unfold put7
  exact ((((((hb.setCell h _).setCell h _).setCell h _).setCell h _).setCell h _).setCell h _).setCell h _
theorem three (w : World) (A B C : Obj) : (((w.alloc A).alloc B).alloc C).heap[w.heap.size]? = some A ∧ (((w.alloc A).alloc B).alloc C).heap[w.heap.size + 1]? = some B ∧ (((w.alloc A).alloc B).alloc C).heap[w.heap.size + 2]? = some C := by
  refine ⟨?_, ?_, ?_⟩
  · rw [Below.heap_alloc _ _ _ (by simp; omega), Below.heap_alloc _ _ _ (by simp), heap_alloc_new]
  · rw [Below.heap_alloc _ _ _ (by simp), show w.heap.size + 1 = (w.alloc A).heap.size from by simp, heap_alloc_new]
  · rw [show w.heap.size + 2 = ((w.alloc A).alloc B).heap.size from by simp, heap_alloc_new]
theorem two (w : World) (A B : Obj) : ((w.alloc A).alloc B).heap[w.heap.size]? = some A ∧ ((w.alloc A).alloc B).heap[w.heap.size + 1]? = some B := by
  refine ⟨?_, ?_⟩
  · rw [Below.heap_alloc _ _ _ (by simp), heap_alloc_new]
  · rw [show w.heap.size + 1 = (w.alloc A).heap.size from by simp, heap_alloc_new]
end Go.Proofs.YthklnfanbegecacDoor
