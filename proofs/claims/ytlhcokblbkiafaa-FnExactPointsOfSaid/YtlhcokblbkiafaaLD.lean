/- No element twice, of the model; DoesPermute, of both, by contracts; the walk of its law. -/
import Derived.Test.YtlhcokblbkiafaaLC
namespace Go.Proofs.Ytlhcokblbkiafaa
open Go.RowKit
theorem Row.capv {w : World} {B : Nat} {v : Value} {l : List Int} (h : Row w B v l) : ∀ a k cap, v = .slice a k cap → k ≤ cap := by
  intro a k cap e
  subst e
  by_cases hl : 0 < l.length
  · obtain ⟨g, c, e, _, _⟩ := h.form hl
    cases e
    exact h.cap
  · obtain rfl : l = [] := List.length_eq_zero_iff.1 (by omega)
    obtain ⟨a, c, e⟩ := h.empty
    cases e
    exact Nat.zero_le _
end Go.Proofs.Ytlhcokblbkiafaa
