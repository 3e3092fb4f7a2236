/- The model's differences: dfTable, dfAsked, dfSpread, dfMost, by contracts. -/
import Derived.Test.YtimpgbifnijkkabGreatSA
import Derived.Test.YtimpgbifnijkkabGreatOB
import Derived.Test.YtimpgbifnijkkabGreatKL
namespace Go.Proofs.YtimpgbifnijkkabGreat
open Go.RowKit
/-- The counts of the first groups, and of the first ones of the next. -/
theorem spr_step (m : Nat) (t : Nat → Int) (a b : Nat) (hb : b < m) {k : Nat} (hk : oc (dft m t (a + 1)) m b = (k : Int)) : oc (cfl m t) (a * m + (b + 1)) = upd (oc (cfl m t) (a * m + b)) k (oc (cfl m t) (a * m + b) k + 1) := by
  rw [show a * m + (b + 1) = a * m + b + 1 by omega]
  exact oc_succ _ _ _ (by rw [cfl_at t a b hb]; exact hk)
theorem part0_zN (m : Nat) : fl (part0 (fun _ => 0) 0) m = fl (fun _ => 0) m := fl_congr fun i _ => by simp [part0]
end Go.Proofs.YtimpgbifnijkkabGreat
