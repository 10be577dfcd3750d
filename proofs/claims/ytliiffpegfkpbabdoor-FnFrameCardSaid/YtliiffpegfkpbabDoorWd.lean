/- impl's word: its sizes. -/
import Derived.Test.YtliiffpegfkpbabDoorIn
import Derived.Test.YtliiffpegfkpbabDoorMath1
import Derived.WalkKit
import Derived.WalkSpells
import Derived.WalkLawsBesides
import Derived.Deep.QuietTactic
import Derived.BigQuiet
import Derived.Lib.Hide
import Derived.Deep.RegionLaw
namespace Go.Proofs.YtliiffpegfkpbabDoor
open Go.RowKit
theorem size46 : (Tryd.prog.info? 78).map (·.size) = some 8 := by kernel_rfl
theorem size5 : (Tryd.prog.info? 5).map (·.size) = some 1 := by kernel_rfl
end Go.Proofs.YtliiffpegfkpbabDoor
