/- The specification's drawer of words: l13AnyWords. -/
import Derived.Test.YtfiiopchfmcjdaaDrawW
namespace Go.Proofs.Ytfiiopchfmcjdaa
open Go.RowKit
end Go.Proofs.Ytfiiopchfmcjdaa
