/- The walks of the laws of inverses and of orders. -/
import Derived.Test.YtpjlolnnbbgikaaKG
namespace Go.Proofs.Ytpjlolnnbbgikaa
open Go.RowKit

end Go.Proofs.Ytpjlolnnbbgikaa
