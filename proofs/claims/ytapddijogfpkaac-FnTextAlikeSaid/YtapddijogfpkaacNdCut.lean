/- Bytes of a drawn list, cut to size. -/
import Derived.Test.YtapddijogfpkaacNdBits
import Derived.Test.YtapddijogfpkaacNdPlain
namespace Go.Proofs.Ytapddijogfpkaac
open Go.RowKit
def CutP (b : Nat) (w : World) (e : Ending) (w' : World) : Prop := ∃ u : ByteArray, u.size ≤ b ∧ e = .returned (.string u) ∧ Below w.heap.size w w'
end Go.Proofs.Ytapddijogfpkaac
