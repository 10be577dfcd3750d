/- impl's word: its sizes. -/
import Derived.Test.YtliiffpegfkpbabIn
import Derived.Test.YtliiffpegfkpbabMath1
import Derived.WalkKit
import Derived.WalkSpells
import Derived.WalkLawsBesides
import Derived.Deep.QuietTactic
import Derived.BigQuiet
import Derived.Lib.Hide
import Derived.Deep.RegionLaw
namespace Go.Proofs.Ytliiffpegfkpbab
open Go.RowKit
theorem size5 : (Try.prog.info? 5).map (·.size) = some 1 := by kernel_rfl
end Go.Proofs.Ytliiffpegfkpbab
