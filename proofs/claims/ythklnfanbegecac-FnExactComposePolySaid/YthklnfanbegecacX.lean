/- impl.element.order by a contract; the walks of the laws of inverses and orders. -/
import Derived.Test.YthklnfanbegecacW
import Derived.Test.YthklnfanbegecacS
namespace Go.Proofs.Ythklnfanbegecac
open Go.RowKit
/-- The memory of order between two rounds. -/
structure TO (w0 wr : World) (q a x : Int) (O Q : Nat) : Prop where
  he : wr.heap[w0.heap.size]? = some (eblk q a)
  ho : wr.heap[O]? = some (eblk q 1)
  hq : wr.heap[Q]? = some (eblk q x)
  bel : Below w0.heap.size w0 wr
  lt : w0.heap.size < O
  lq : O < Q
theorem TO.step {w0 wr w2 : World} {q a x : Int} {O Q : Nat} (h : TO w0 wr q a x O Q) (hb : Below (wr.alloc (eblk q x)).heap.size (wr.alloc (eblk q x)) w2) (x' : Int) : TO w0 (put7 w2 wr.heap.size q x') q a x' O wr.heap.size := by
  have hQ : Q < wr.heap.size := (Array.getElem?_eq_some_iff.1 h.hq).1
  have hl := h.lt
  have hlq := h.lq
  have hs : (wr.alloc (eblk q x)).heap.size = wr.heap.size + 1 := by simp
  rw [hs] at hb
  refine ⟨?_, ?_, ?_, ?_, hl, by omega⟩
  · rw [put7_other _ _ _ _ _ (by omega), hb.block _ (by omega), Below.heap_alloc _ _ _ (by omega)]; exact h.he
  · rw [put7_other _ _ _ _ _ (by omega), hb.block _ (by omega), Below.heap_alloc _ _ _ (by omega)]; exact h.ho
  · exact put7_same _ _ _ _ _ _ _ _ _ _ _ (by rw [hb.block _ (by omega)]; exact heap_alloc_new wr _)
  · exact put7_below ((h.bel.alloc (by omega) _).trans (hb.mono (by omega))) _ (by omega) _ _

end Go.Proofs.Ythklnfanbegecac
