/- The specification's drawer of words: l13AnyWords. -/
import Derived.Test.YtabipkpgmlmkcaaDrawW
namespace Go.Proofs.Ytabipkpgmlmkcaa
open Go.RowKit
end Go.Proofs.Ytabipkpgmlmkcaa
