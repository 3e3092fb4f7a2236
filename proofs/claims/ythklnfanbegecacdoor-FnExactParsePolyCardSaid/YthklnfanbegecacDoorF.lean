/- spec.fdModulus and spec.fdTimes by contracts. -/
import Derived.Test.YthklnfanbegecacDoorE
namespace Go.Proofs.YthklnfanbegecacDoor
open Go.RowKit

/-- The four rows of a product. -/
structure T4 (w0 wr : World) (g1 c1 g2 c2 g3 c3 g4 c4 k n : Nat) (x y m L : List Int) : Prop where
  rx : Row wr w0.heap.size (.slice (some ⟨g1, 0, none⟩) k c1) x
  ry : Row wr w0.heap.size (.slice (some ⟨g2, 0, none⟩) k c2) y
  rm : Row wr w0.heap.size (.slice (some ⟨g3, 0, none⟩) k c3) m
  rL : Row wr w0.heap.size (.slice (some ⟨g4, 0, none⟩) n c4) L
  bel : Below w0.heap.size w0 wr
  ne1 : g1 < g4
  ne2 : g2 < g4
  ne3 : g3 < g4
  ge4 : w0.heap.size ≤ g4
theorem T4.store {w0 wr : World} {g1 c1 g2 c2 g3 c3 g4 c4 k n : Nat} {x y m L : List Int} (h : T4 w0 wr g1 c1 g2 c2 g3 c3 g4 c4 k n x y m L) (hn : n = L.length) (i : Nat) (u : Int) :
    T4 w0 (wr.setCell ⟨g4, i, none⟩ (.int .i64 u)) g1 c1 g2 c2 g3 c3 g4 c4 k n x y m (L.set i u) := by
  obtain ⟨h1, h2, h3, h4, h5, h6, h7, h8, h9⟩ := h
  exact ⟨h1.other (by simp [Value.ownBlock]; omega) _, h2.other (by simp [Value.ownBlock]; omega) _, h3.other (by simp [Value.ownBlock]; omega) _, h4.store hn i u, h5.setCell h9 _, h6, h7, h8, h9⟩
theorem T4.drew {w0 wr : World} {g1 c1 g2 c2 g3 c3 g4 c4 k n : Nat} {x y m L : List Int} (h : T4 w0 wr g1 c1 g2 c2 g3 c3 g4 c4 k n x y m L) : T4 w0 wr.drew g1 c1 g2 c2 g3 c3 g4 c4 k n x y m L :=
  ⟨h.1, h.2, h.3, h.4, h.5.drew, h.6, h.7, h.8, h.9⟩

end Go.Proofs.YthklnfanbegecacDoor
