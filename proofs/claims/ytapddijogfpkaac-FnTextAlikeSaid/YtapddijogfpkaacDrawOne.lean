/- The specification's drawer: one, of a few numbers. -/
import Derived.Test.YtapddijogfpkaacDrawO
namespace Go.Proofs.Ytapddijogfpkaac
open Go.RowKit
end Go.Proofs.Ytapddijogfpkaac
