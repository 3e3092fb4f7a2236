/- Slices of elements that the call itself makes; impl.field.elements by a contract. -/
import Derived.Test.YthklnfanbegecacDoorJ
import Derived.Test.YthklnfanbegecacDoorM
import Derived.Test.YthklnfanbegecacDoorD
namespace Go.Proofs.YthklnfanbegecacDoor
open Go.RowKit
/-- The cells of the first m elements of a slice: element j has the number f j. -/
def Els (w : World) (g : Nat) (q : Int) (f : Nat → Int) (m : Nat) : Prop := ∀ j, j < m →
  w.cell? ⟨g, j * 7, none⟩ = some (.int .i64 q) ∧ w.cell? ⟨g, j * 7 + 1, none⟩ = some (.int .i64 (pr q)) ∧ w.cell? ⟨g, j * 7 + 2, none⟩ = some (.int .i64 (pl q)) ∧
  w.cell? ⟨g, j * 7 + 3, none⟩ = some (.int .i64 (dg q (f j) 0)) ∧ w.cell? ⟨g, j * 7 + 4, none⟩ = some (.int .i64 (dg q (f j) 1)) ∧ w.cell? ⟨g, j * 7 + 5, none⟩ = some (.int .i64 (dg q (f j) 2)) ∧ w.cell? ⟨g, j * 7 + 6, none⟩ = some (.int .i64 (dg q (f j) 3))
/-- Seven stores: element i of a slice. -/
abbrev put7i (w : World) (g i : Nat) (q a : Int) : World :=
  ((((((w.setCell ⟨g, i * 7, none⟩ (.int .i64 q)).setCell ⟨g, i * 7 + 1, none⟩ (.int .i64 (pr q))).setCell ⟨g, i * 7 + 2, none⟩ (.int .i64 (pl q))).setCell ⟨g, i * 7 + 3, none⟩ (.int .i64 (dg q a 0))).setCell ⟨g, i * 7 + 4, none⟩ (.int .i64 (dg q a 1))).setCell ⟨g, i * 7 + 5, none⟩ (.int .i64 (dg q a 2))).setCell ⟨g, i * 7 + 6, none⟩ (.int .i64 (dg q a 3))
theorem put7i_other (w : World) (g i : Nat) (q a : Int) (k : Nat) (h : k ≠ g) : (put7i w g i q a).heap[k]? = w.heap[k]? := by
  unfold put7i
  iterate 7 rw [heap_setCell_other _ _ _ _ h]
theorem put7i_below {B : Nat} {w0 w : World} (hb : Below B w0 w) (g : Nat) (h : B ≤ g) (i : Nat) (q a : Int) : Below B w0 (put7i w g i q a) := by
  unfold put7i
  exact ((((((hb.setCell h _).setCell h _).setCell h _).setCell h _).setCell h _).setCell h _).setCell h _
theorem Els.below {w w' : World} {g m : Nat} {q : Int} {f : Nat → Int} {B : Nat} (h : Els w g q f m) (hb : Below B w w') (hg : g < B) : Els w' g q f m := fun j hj => by
  obtain ⟨hc, _⟩ := bcell hb
  simp only [hc _ _ hg]
  exact h j hj
theorem Els.same {w w' : World} {g m : Nat} {q : Int} {f : Nat → Int} (h : Els w g q f m) (hg : w'.heap[g]? = w.heap[g]?) : Els w' g q f m := fun j hj => by
  have hc : ∀ o, w'.cell? ⟨g, o, none⟩ = w.cell? ⟨g, o, none⟩ := fun o => World.cell?_of_block (a := ⟨g, o, none⟩) hg
  simp only [hc]
  exact h j hj
end Go.Proofs.YthklnfanbegecacDoor
