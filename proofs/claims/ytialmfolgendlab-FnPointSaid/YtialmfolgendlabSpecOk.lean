/- spec.PointOk: a leaf of the walk. -/
import Derived.Test.YtialmfolgendlabFits
import Derived.Deep.RegionLaw
import Derived.Deep.RegionWith
import Derived.Deep.DeepMust
namespace Go.Proofs.Ytialmfolgendlab
open Go.RowKit
theorem wrap_dp {d p : Int} (h1 : inB d 0 65535 = true) (h2 : inB p 0 65535 = true) : IntKind.i64.wrap (d + p) = d + p := by
  simp [inB] at h1 h2
  simp [IntKind.wrap, IntKind.signed, IntKind.bits]
  omega
end Go.Proofs.Ytialmfolgendlab
