/- impl.poly.padded by a contract. -/
import Derived.Test.YthklnfanbegecacIA
namespace Go.Proofs.Ythklnfanbegecac
open Go.RowKit
theorem Els.cellAt {w : World} {g n : Nat} {q : Int} {f : Nat → Int} (h : Els w g q f n) (j b : Nat) (hj : j < n) (hb : b < 7) : w.cell? ⟨g, j * 7 + b, none⟩ = (el7 q (f j))[b]? := by
  obtain ⟨h0, h1, h2, h3, h4, h5, h6⟩ := h j hj
  match b, hb with
  | 0, _ => exact h0
  | 1, _ => exact h1
  | 2, _ => exact h2
  | 3, _ => exact h3
  | 4, _ => exact h4
  | 5, _ => exact h5
  | 6, _ => exact h6
theorem Els.of {w : World} {g n : Nat} {q : Int} {f : Nat → Int} (h : ∀ j b, j < n → b < 7 → w.cell? ⟨g, j * 7 + b, none⟩ = (el7 q (f j))[b]?) : Els w g q f n := fun j hj =>
  ⟨h j 0 hj (by omega), h j 1 hj (by omega), h j 2 hj (by omega), h j 3 hj (by omega), h j 4 hj (by omega), h j 5 hj (by omega), h j 6 hj (by omega)⟩
theorem Els.copied {w w' : World} {g m n : Nat} {q : Int} {f : Nat → Int} {cur : List Value} (hcur : w.heap[g]? = some (.cells cur.toArray 46 (0, 0))) (hl : cur.length = m * 7) (he : Els w g q (fun _ => 0) m) (hn : n ≤ m) (zf : ∀ i, n ≤ i → f i = 0)
    (h : w'.heap[g]? = some (.cells (splice cur 0 (elc q f n)).toArray 46 (0, 0))) : Blk w' g m ∧ Els w' g q f m := by
  have hsz : (splice cur 0 (elc q f n)).length = m * 7 := by rw [length_splice _ _ _ (by rw [elc_len]; omega), hl]
  refine ⟨⟨_, h, by simpa using hsz⟩, Els.of fun j b hj hb => ?_⟩
  rw [cell_of_row w' g _ _ _ (0, 0) h, List.getElem?_toArray]
  unfold splice
  rw [List.take_zero, List.nil_append, elc_len]
  by_cases hjn : j < n
  · rw [List.getElem?_append_left (by rw [elc_len]; omega), elc_get q f n j b hjn hb]
  · rw [List.getElem?_append_right (by rw [elc_len]; omega), elc_len, List.getElem?_drop, zf j (by omega), ← he.cellAt j b hj hb, cell_of_row w g _ _ _ (0, 0) hcur, List.getElem?_toArray]
    congr 1
    omega
end Go.Proofs.Ythklnfanbegecac
