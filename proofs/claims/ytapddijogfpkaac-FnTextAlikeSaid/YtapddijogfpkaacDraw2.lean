/- The specification's drawer of words: l13AnyWords. -/
import Derived.Test.YtapddijogfpkaacDrawW
namespace Go.Proofs.Ytapddijogfpkaac
open Go.RowKit
end Go.Proofs.Ytapddijogfpkaac
