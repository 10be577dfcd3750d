/- impl.isWords. -/
import Derived.Test.YtliiffpegfkpbabIn
namespace Go.Proofs.Ytliiffpegfkpbab
open Go.RowKit
def wordsB (n : Nat) : Bool := decide (n % 8 = 0 ∧ n ≤ 1600)
end Go.Proofs.Ytliiffpegfkpbab
