/- what Get answers. -/
import Derived.Test.YtliiffpegfkpbaaIsPlace
namespace Go.Proofs.Ytliiffpegfkpbaa
open Go.RowKit
/-- what Get answers. -/
def getI (l : List UInt8) (at_ size : Int) : Int := if wordsB l.length = true ∧ placeB at_ size = true then wrap64 (leN l at_.toNat size.toNat : Nat) else 0
end Go.Proofs.Ytliiffpegfkpbaa
