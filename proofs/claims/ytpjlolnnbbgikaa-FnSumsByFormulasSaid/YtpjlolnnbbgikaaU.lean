/- The walk of the law of digits. -/
import Derived.Test.YtpjlolnnbbgikaaKE
import Derived.Test.YtpjlolnnbbgikaaKC
namespace Go.Proofs.Ytpjlolnnbbgikaa
open Go.RowKit

theorem dg_get (q a : Int) (j : Nat) : (digs (plN q) (pr q) a)[j]?.getD 0 = dg q a j := by simp [dg, List.getD]
end Go.Proofs.Ytpjlolnnbbgikaa
