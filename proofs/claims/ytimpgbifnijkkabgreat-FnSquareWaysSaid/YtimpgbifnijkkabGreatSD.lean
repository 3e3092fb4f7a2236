/- impl.countsOf at elements and at numbers, slices.Grow and Concat of numbers, impl.spread.hasOnly, greatest, by contracts. -/
import Derived.Test.YtimpgbifnijkkabGreatSA
import Derived.Test.YtimpgbifnijkkabGreatRB
import Derived.Test.YtimpgbifnijkkabGreatLV
import Derived.Lib.AppendZerosOnto
import Derived.Lib.AppendZeros
namespace Go.Proofs.YtimpgbifnijkkabGreat
open Go.RowKit
theorem part0_zM (m : Nat) : fl (part0 (fun _ => 0) 0) m = fl (fun _ => 0) m := fl_congr fun i _ => by simp [part0]
end Go.Proofs.YtimpgbifnijkkabGreat
