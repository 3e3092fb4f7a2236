/- The walks of the laws FnExactPrimeOf and FnExactIsSize. -/
import Derived.Test.YtpjlolnnbbgikaaKB
import Derived.WalkSmall
import Derived.Deep.QuietTactic
import Derived.BigQuiet
namespace Go.Proofs.Ytpjlolnnbbgikaa
open Go.RowKit

end Go.Proofs.Ytpjlolnnbbgikaa
