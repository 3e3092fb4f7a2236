/- impl.element.times by a contract. -/
import Derived.Test.YthklnfanbegecabDoorJ
import Derived.Deep.RegionWith
namespace Go.Proofs.YthklnfanbegecabDoor
open Go.RowKit
/-- The block of an element. -/
abbrev eblk (q a : Int) : Obj := .cells #[.int .i64 q, .int .i64 (pr q), .int .i64 (pl q), .int .i64 (dg q a 0), .int .i64 (dg q a 1), .int .i64 (dg q a 2), .int .i64 (dg q a 3)] 46
abbrev zeroblk : Obj := .cells #[.int .i64 0, .int .i64 0, .int .i64 0, .int .i64 0, .int .i64 0, .int .i64 0, .int .i64 0] 46
/-- Seven stores: a whole element. -/
abbrev put7 (w : World) (b : Nat) (q a : Int) : World :=
  ((((((w.setCell ⟨b, 0, none⟩ (.int .i64 q)).setCell ⟨b, 1, none⟩ (.int .i64 (pr q))).setCell ⟨b, 2, none⟩ (.int .i64 (pl q))).setCell ⟨b, 3, none⟩ (.int .i64 (dg q a 0))).setCell ⟨b, 4, none⟩ (.int .i64 (dg q a 1))).setCell ⟨b, 5, none⟩ (.int .i64 (dg q a 2))).setCell ⟨b, 6, none⟩ (.int .i64 (dg q a 3))
theorem put7_other (w : World) (b : Nat) (q a : Int) (k : Nat) (h : k ≠ b) : (put7 w b q a).heap[k]? = w.heap[k]? := by
  unfold put7
  iterate 7 rw [heap_setCell_other _ _ _ _ h]
theorem put7_same (w : World) (b : Nat) (q a : Int) (x0 x1 x2 x3 x4 x5 x6 : Value) (h : w.heap[b]? = some (.cells #[x0, x1, x2, x3, x4, x5, x6] 46 (0, 0))) : (put7 w b q a).heap[b]? = some (eblk q a) := by
  unfold put7
  have h0 := heap_setCell_same w b 0 _ _ (.int .i64 q) h
  have h1 := heap_setCell_same _ b 1 _ _ (.int .i64 (pr q)) h0
  have h2 := heap_setCell_same _ b 2 _ _ (.int .i64 (pl q)) h1
  have h3 := heap_setCell_same _ b 3 _ _ (.int .i64 (dg q a 0)) h2
  have h4 := heap_setCell_same _ b 4 _ _ (.int .i64 (dg q a 1)) h3
  have h5 := heap_setCell_same _ b 5 _ _ (.int .i64 (dg q a 2)) h4
  have h6 := heap_setCell_same _ b 6 _ _ (.int .i64 (dg q a 3)) h5
  rw [h6]
  rfl
theorem put7_below {B : Nat} {w0 w : World} (hb : Below B w0 w) (b : Nat) (h : B ≤ b) (q a : Int) : Below B w0 (put7 w b q a) := by
  unfold put7
  exact ((((((hb.setCell h _).setCell h _).setCell h _).setCell h _).setCell h _).setCell h _).setCell h _
theorem three (w : World) (A B C : Obj) : (((w.alloc A).alloc B).alloc C).heap[w.heap.size]? = some A ∧ (((w.alloc A).alloc B).alloc C).heap[w.heap.size + 1]? = some B ∧ (((w.alloc A).alloc B).alloc C).heap[w.heap.size + 2]? = some C := by
  refine ⟨?_, ?_, ?_⟩
  · rw [Below.heap_alloc _ _ _ (by simp; omega), Below.heap_alloc _ _ _ (by simp), heap_alloc_new]
  · rw [Below.heap_alloc _ _ _ (by simp), show w.heap.size + 1 = (w.alloc A).heap.size from by simp, heap_alloc_new]
  · rw [show w.heap.size + 2 = ((w.alloc A).alloc B).heap.size from by simp, heap_alloc_new]
theorem two (w : World) (A B : Obj) : ((w.alloc A).alloc B).heap[w.heap.size]? = some A ∧ ((w.alloc A).alloc B).heap[w.heap.size + 1]? = some B := by
  refine ⟨?_, ?_⟩
  · rw [Below.heap_alloc _ _ _ (by simp), heap_alloc_new]
  · rw [show w.heap.size + 1 = (w.alloc A).heap.size from by simp, heap_alloc_new]
/-- What the cells of an element's block hold. -/
theorem seven {w : World} {b : Nat} {x0 x1 x2 x3 x4 x5 x6 : Value} (h : w.heap[b]? = some (.cells #[x0, x1, x2, x3, x4, x5, x6] 46 (0, 0))) :
    w.cell? ⟨b, 0, none⟩ = some x0 ∧ w.cell? ⟨b, 1, none⟩ = some x1 ∧ w.cell? ⟨b, 2, none⟩ = some x2 ∧ w.cell? ⟨b, 3, none⟩ = some x3 ∧ w.cell? ⟨b, 4, none⟩ = some x4 ∧ w.cell? ⟨b, 5, none⟩ = some x5 ∧ w.cell? ⟨b, 6, none⟩ = some x6 ∧
    (∀ o, w.frozen? ⟨b, o, none⟩ = false) ∧ b < w.heap.size := by
  refine ⟨?_, ?_, ?_, ?_, ?_, ?_, ?_, fun o => frozen_of_row w b o _ _ h, (Array.getElem?_eq_some_iff.1 h).1⟩ <;> rw [cell_of_row w b _ _ _ (0, 0) h] <;> rfl

/-- The memory of times between two rounds. -/
structure TW (w0 wr : World) (q a b x : Int) (P : Nat) : Prop where
  he : wr.heap[w0.heap.size]? = some (eblk q a)
  ho : wr.heap[w0.heap.size + 1]? = some (eblk q b)
  hr : wr.heap[w0.heap.size + 2]? = some zeroblk
  hp : wr.heap[P]? = some (eblk q x)
  bel : Below w0.heap.size w0 wr
  lt : w0.heap.size + 2 < P
theorem TW.step {w0 wr w5 : World} {q a b x : Int} {P : Nat} (h : TW w0 wr q a b x P) (hb : Below wr.heap.size wr w5) (x' : Int) : TW w0 (put7 w5 P q x') q a b x' P := by
  have hP : P < wr.heap.size := (Array.getElem?_eq_some_iff.1 h.hp).1
  have hl := h.lt
  refine ⟨?_, ?_, ?_, ?_, ?_, hl⟩
  · rw [put7_other _ _ _ _ _ (by omega), hb.block _ (by omega)]; exact h.he
  · rw [put7_other _ _ _ _ _ (by omega), hb.block _ (by omega)]; exact h.ho
  · rw [put7_other _ _ _ _ _ (by omega), hb.block _ (by omega)]; exact h.hr
  · exact put7_same _ _ _ _ _ _ _ _ _ _ _ (by rw [hb.block _ hP]; exact h.hp)
  · exact put7_below (h.bel.trans (hb.mono (by omega))) P (by omega) _ _
theorem TW.drew {w0 wr : World} {q a b x : Int} {P : Nat} (h : TW w0 wr q a b x P) : TW w0 wr.drew q a b x P := ⟨h.1, h.2, h.3, h.4, h.5.drew, h.6⟩

end Go.Proofs.YthklnfanbegecabDoor
