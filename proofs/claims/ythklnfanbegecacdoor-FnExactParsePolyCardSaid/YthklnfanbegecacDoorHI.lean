/- Lists made by a function: impl.listOf, mapped, zipped at the functions that the program gives them, by contracts. -/
import Derived.Test.YthklnfanbegecacDoorHC
import Derived.Test.YthklnfanbegecacDoorEA
import Derived.Test.YthklnfanbegecacDoorL
namespace Go.Proofs.YthklnfanbegecacDoor
open Go.RowKit
/-- v is a slice of n elements, told by f. -/
def Se (w : World) (v : Value) (q : Int) (f : Nat → Int) (n : Nat) : Prop := ∃ g cap, v = .slice (some ⟨g, 0, none⟩) n cap ∧ g < w.heap.size ∧ Els w g q f n
theorem Se.below {w w' : World} {v : Value} {q : Int} {f : Nat → Int} {n B : Nat} (h : Se w v q f n) (hb : Below B w w') (hB : w.heap.size ≤ B) : Se w' v q f n := by
  obtain ⟨g, cap, rfl, hg, he⟩ := h
  exact ⟨g, cap, rfl, by have := hb.size; omega, he.below hb (by omega)⟩
theorem Se.congr {w : World} {v : Value} {q : Int} {f f' : Nat → Int} {n : Nat} (h : Se w v q f n) (hf : ∀ i, i < n → f i = f' i) : Se w v q f' n := by
  obtain ⟨g, cap, rfl, hg, he⟩ := h
  exact ⟨g, cap, rfl, hg, fun j hj => by rw [← hf j hj]; exact he j hj⟩

end Go.Proofs.YthklnfanbegecacDoor
