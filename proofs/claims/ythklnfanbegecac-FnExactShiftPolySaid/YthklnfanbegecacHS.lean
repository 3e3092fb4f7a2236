/- ReducePoly, of the program and of the model, by contracts; the walk of its law. -/
import Derived.Test.YthklnfanbegecacHR
import Derived.Test.YthklnfanbegecacHP
namespace Go.Proofs.Ythklnfanbegecac
open Go.RowKit
theorem Sl.tell {w : World} {v : Value} {l : List Int} (h : Sl w v l) : Sl w v (fl (fun i => l.getD i 0) l.length) := by rw [← fl_of]; exact h
theorem all_el {q : Int} {l : List Int} (h : isSz q = true) (ha : l.all (inF q) = true) : ∀ i, El q (l.getD i 0) := fun i => by
  by_cases hi : i < l.length
  · have hx := List.all_eq_true.1 ha (l.getD i 0) (by rw [show l.getD i 0 = l[i] by simp [List.getD, hi]]; exact List.getElem_mem hi)
    simpa [inF, El] using hx
  · rw [show l.getD i 0 = 0 by simp [List.getD, hi]]
    exact El.zero h
set_option maxHeartbeats 1000000 in
/-- impl.poly.numbers. -/
theorem numbersE (q : Int) (v : Value) (f : Nat → Int) (n : Nat) (w : World) (h : isSz q = true) (hv : Se w v q f n) (ha : ∀ i, i < n → El q (f i)) (hl : n ≤ 1000) :
    Calls Try.prog 20 #[polyE q v] w fun e w' => ∃ v', e = .returned v' ∧ Row w' w.heap.size v' (fl f n) ∧ Below w.heap.size w w' := by
  have HM := Lib.hid (fun w' (hb : Below w.heap.size w w') => mappedEI q v f n w' h (hv.below hb (Nat.le_refl _)) ha hl)
  clear h hv ha
  go_enter Try.func20, Try.ntmps20
  go_wp2_with fail
  refine (HM.out _ (by (repeat' (first | (with_reducible assumption) | (with_reducible exact Below.refl _ _) | (with_reducible refine below_drewN ?_ _) | (with_reducible refine Below.drew ?_) | (with_reducible refine Below.alloc ?_ ?_ _) | (with_reducible refine Below.setCell ?_ ?_ _) | (with_reducible refine Below.trans ?_ (Below.mono (by assumption) ?_)) | (with_reducible exact Nat.le_refl _) | (with_reducible assumption) | omega | (simp; omega) | (simp; done))))).mono ?_
  rintro e w1 ⟨v1, rfl, hr, hb1⟩
  have HR := Lib.hid hr; clear hr
  have HB1 := Lib.hid hb1; clear hb1
  go_wp2
  go_ret
  have hb1 := HB1.out
  exact ⟨_, rfl, HR.out.mono (by simp), by (repeat' (first | (with_reducible assumption) | (with_reducible exact Below.refl _ _) | (with_reducible refine below_drewN ?_ _) | (with_reducible refine Below.drew ?_) | (with_reducible refine Below.alloc ?_ ?_ _) | (with_reducible refine Below.setCell ?_ ?_ _) | (with_reducible refine Below.trans ?_ (Below.mono (by assumption) ?_)) | (with_reducible exact Nat.le_refl _) | (with_reducible assumption) | omega | (simp; omega) | (simp; done)))⟩

end Go.Proofs.Ythklnfanbegecac
