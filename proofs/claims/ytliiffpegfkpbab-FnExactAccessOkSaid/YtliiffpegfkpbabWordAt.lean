/- impl's wordAt: a word of words (for a seat without the small tests). -/
import Derived.Test.YtliiffpegfkpbabIsWords
import Derived.Test.YtliiffpegfkpbabWd
import Derived.Test.YtliiffpegfkpbabMath1
import Derived.WalkKit
import Derived.WalkSpells
import Derived.WalkLawsBesides
import Derived.Deep.QuietTactic
import Derived.BigQuiet
import Derived.Lib.Hide
import Derived.Deep.RegionLaw
namespace Go.Proofs.Ytliiffpegfkpbab
open Go.RowKit

end Go.Proofs.Ytliiffpegfkpbab
