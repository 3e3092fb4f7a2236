/- laws.toIntS by a contract. -/
import Derived.Test.YthklnfanbegecacDoorHB
import Derived.Test.YthklnfanbegecacDoorF
namespace Go.Proofs.YthklnfanbegecacDoor
open Go.RowKit
/-- The first i entries of f, zeros behind. -/
def part0 (f : Nat → Int) (i : Nat) : Nat → Int := fun j => if j < i then f j else 0
theorem part0_step (f : Nat → Int) (i : Nat) : upd (part0 f i) i (f i) = part0 f (i + 1) := by
  funext j
  unfold upd part0
  by_cases e : j = i
  · subst e; simp
  · rw [if_neg e]
    by_cases h : j < i
    · rw [if_pos h, if_pos (by omega)]
    · rw [if_neg h, if_neg (by omega)]
theorem part0_all (f : Nat → Int) (n : Nat) : fl (part0 f n) n = fl f n := fl_congr fun i hi => by simp [part0, hi]
theorem part0_zero (f : Nat → Int) (n : Nat) : List.replicate n 0 = fl (part0 f 0) n := by
  refine List.ext_getElem (by simp [fl]) fun j h1 h2 => ?_
  simp [fl, part0]
theorem Row.madeF {w : World} {B g n : Nat} (f : Nat → Int) (h : w.ownsRow B 3 1 (.slice (some ⟨g, 0, none⟩) n n) n (madeCells #[Value.int .i64 0] n).toList) : Row w B (.slice (some ⟨g, 0, none⟩) n n) (fl (part0 f 0) n) := by
  rw [← part0_zero]
  unfold Row
  rw [List.length_replicate, List.map_replicate]
  rw [toList_madeCells_one] at h
  exact h

end Go.Proofs.YthklnfanbegecacDoor
