/- impl's word: its sizes. -/
import Derived.Test.YtfiiopchfmcjdaaIn
import Derived.Test.YtfiiopchfmcjdaaMath1
import Derived.WalkKit
import Derived.WalkSpells
import Derived.WalkLawsBesides
import Derived.Deep.QuietTactic
import Derived.BigQuiet
import Derived.Lib.Hide
import Derived.Deep.RegionLaw
namespace Go.Proofs.Ytfiiopchfmcjdaa
open Go.RowKit
theorem size46 : (Try.prog.info? 51).map (·.size) = some 8 := by kernel_rfl
theorem size5 : (Try.prog.info? 5).map (·.size) = some 1 := by kernel_rfl
end Go.Proofs.Ytfiiopchfmcjdaa
