/- impl.element.power and inverse by contracts. -/
import Derived.Test.YthklnfanbegecabM
namespace Go.Proofs.Ythklnfanbegecab
open Go.RowKit
theorem pw_sq (q y : Int) (h : isSz q = true) (y0 : 0 ≤ y) (y1 : y < q) (m : Nat) : pw q (mulF q y y) m = pw q y (2 * m) := by
  have e : mulF q y y = pw q y 2 := by
    show _ = mulF q (mulF q 1 y) y
    rw [(mulF_one q y h y0 y1).1]
  rw [e, pw_pw q y h y0 y1]
theorem pw_odd (q x y : Int) (h : isSz q = true) (x0 : 0 ≤ x) (x1 : x < q) (y0 : 0 ≤ y) (y1 : y < q) (m : Nat) :
    mulF q (mulF q x y) (pw q (mulF q y y) m) = mulF q x (pw q y (2 * m + 1)) := by
  have hb := pw_bd q y h y0 y1 (2 * m)
  rw [pw_sq q y h y0 y1, mulF_assoc q x y _ h x0 x1 y0 y1 hb.1 hb.2]
  congr 1
  have e1 : pw q y 1 = y := (mulF_one q y h y0 y1).1
  have := pw_add q y h y0 y1 1 (2 * m)
  rw [e1] at this
  rw [this, Nat.add_comm]

/-- The memory of power between two rounds. -/
structure TP (w0 wr : World) (q y x : Int) (P : Nat) : Prop where
  he : wr.heap[w0.heap.size]? = some (eblk q y)
  hr : wr.heap[w0.heap.size + 1]? = some zeroblk
  hp : wr.heap[P]? = some (eblk q x)
  bel : Below w0.heap.size w0 wr
  lt : w0.heap.size + 1 < P
theorem TP.stepP {w0 wr w5 : World} {q y x : Int} {P : Nat} (h : TP w0 wr q y x P) (hb : Below wr.heap.size wr w5) (x' : Int) : TP w0 (put7 w5 P q x') q y x' P := by
  have hP : P < wr.heap.size := (Array.getElem?_eq_some_iff.1 h.hp).1
  have hl := h.lt
  refine ⟨?_, ?_, ?_, ?_, hl⟩
  · rw [put7_other _ _ _ _ _ (by omega), hb.block _ (by omega)]; exact h.he
  · rw [put7_other _ _ _ _ _ (by omega), hb.block _ (by omega)]; exact h.hr
  · exact put7_same _ _ _ _ _ _ _ _ _ _ _ (by rw [hb.block _ hP]; exact h.hp)
  · exact put7_below (h.bel.trans (hb.mono (by omega))) P (by omega) _ _
theorem TP.stepE {w0 wr w5 : World} {q y x : Int} {P : Nat} (h : TP w0 wr q y x P) (hb : Below wr.heap.size wr w5) (y' : Int) : TP w0 (put7 w5 w0.heap.size q y') q y' x P := by
  have hP : P < wr.heap.size := (Array.getElem?_eq_some_iff.1 h.hp).1
  have hl := h.lt
  refine ⟨?_, ?_, ?_, ?_, hl⟩
  · exact put7_same _ _ _ _ _ _ _ _ _ _ _ (by rw [hb.block _ (by omega)]; exact h.he)
  · rw [put7_other _ _ _ _ _ (by omega), hb.block _ (by omega)]; exact h.hr
  · rw [put7_other _ _ _ _ _ (by omega), hb.block _ (by omega)]; exact h.hp
  · exact put7_below (h.bel.trans (hb.mono (by omega))) _ (by omega) _ _

end Go.Proofs.Ythklnfanbegecab
