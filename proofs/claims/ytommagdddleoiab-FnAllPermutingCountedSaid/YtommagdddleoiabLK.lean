/- GreatestDegree, of both, by contracts; the walk of its law. -/
import Derived.Test.YtommagdddleoiabKI
namespace Go.Proofs.Ytommagdddleoiab
open Go.RowKit
/-- impl.IsSize. -/
theorem isSizeE (q : Int) (w : World) :
    Calls Try.prog 35 #[.int .i64 q] w fun e w' => e = .returned (.bool (isSz q)) ∧ Below w.heap.size w w' := by
  cases h : isSz q with
  | true =>
    go_enter Try.func35, Try.ntmps35
    go_wp2_with (first | (go_at_call 55; refine (fieldOf_yes _ _ h).mono ?_; rintro e w1 ⟨rfl, hb⟩; have hz_hb := hb.size; (try simp at hz_hb)))
    go_ret
    exact ⟨rfl, by (repeat' (first | (with_reducible assumption) | (with_reducible exact Below.refl _ _) | (with_reducible refine below_drewN ?_ _) | (with_reducible refine Below.drew ?_) | (with_reducible refine Below.alloc ?_ ?_ _) | (with_reducible refine Below.setCell ?_ ?_ _) | (with_reducible refine Below.trans ?_ (Below.mono (by assumption) ?_)) | (with_reducible exact Nat.le_refl _) | (with_reducible assumption) | omega | (simp; omega) | (simp; done)))⟩
  | false =>
    go_enter Try.func35, Try.ntmps35
    go_wp2_with (first | (go_at_call 55; refine (fieldOf_no _ _ h).mono ?_; rintro e w1 ⟨rfl, hb⟩; have hz_hb := hb.size; (try simp at hz_hb)))
    go_ret
    exact ⟨rfl, by (repeat' (first | (with_reducible assumption) | (with_reducible exact Below.refl _ _) | (with_reducible refine below_drewN ?_ _) | (with_reducible refine Below.drew ?_) | (with_reducible refine Below.alloc ?_ ?_ _) | (with_reducible refine Below.setCell ?_ ?_ _) | (with_reducible refine Below.trans ?_ (Below.mono (by assumption) ?_)) | (with_reducible exact Nat.le_refl _) | (with_reducible assumption) | omega | (simp; omega) | (simp; done)))⟩
end Go.Proofs.Ytommagdddleoiab
