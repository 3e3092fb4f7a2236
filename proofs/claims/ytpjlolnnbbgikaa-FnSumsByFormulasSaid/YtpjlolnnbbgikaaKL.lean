/- A bundle of texts: HO. -/
import Derived.Test.YtpjlolnnbbgikaaKK
import Derived.Test.YtpjlolnnbbgikaaKJ
import Derived.Test.YtpjlolnnbbgikaaKI
namespace Go.Proofs.Ytpjlolnnbbgikaa
open Go.RowKit
theorem good_el {q : Int} {l : List Int} (h : good q l = true) : ∀ i, i < l.length → El q (l.getD i 0) := fun i hi => by
  have hx := List.all_eq_true.1 (good_parts h).2 (l.getD i 0) (by rw [show l.getD i 0 = l[i] by simp [List.getD, hi]]; exact List.getElem_mem hi)
  simpa [inF, El] using hx
theorem inE_el {q a : Int} (h : inE q a = true) : El q a := ⟨(inE_yes h).2.1, (inE_yes h).2.2⟩

/-- The table of a polynomial. -/
def tabF (q : Int) (f : Nat → Int) (n : Nat) : Nat → Int := fun x => hor q (x : Int) f n n
end Go.Proofs.Ytpjlolnnbbgikaa
