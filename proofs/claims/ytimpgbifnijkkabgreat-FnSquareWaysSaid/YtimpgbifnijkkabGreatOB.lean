/- The model's counts of places: vaCounts, vaSet, vaValues, by contracts. -/
import Derived.Test.YtimpgbifnijkkabGreatKI
import Derived.Test.YtimpgbifnijkkabGreatOA
namespace Go.Proofs.YtimpgbifnijkkabGreat
open Go.RowKit
theorem part0_z (m : Nat) : fl (part0 (fun _ => 0) 0) m = fl (fun _ => 0) m := fl_congr fun i _ => by simp [part0]
end Go.Proofs.YtimpgbifnijkkabGreat
