/- The specification's drawer: l13Cut. -/
import Derived.Test.YtfiiopchfmcjdaaDraw1
import Derived.Test.YtfiiopchfmcjdaaNdBits
import Derived.Deep.RegionWith
import Derived.Lib.ConvBytes
namespace Go.Proofs.Ytfiiopchfmcjdaa
open Go.RowKit
theorem Rd.drewc {w : World} {R n : Nat} (h : Rd w R n) : Rd w.drew R n := (h.self.drewN 1).1
end Go.Proofs.Ytfiiopchfmcjdaa
