/- The specification's l1Bytes: a number as so many bytes, the lowest first. -/
import Derived.Test.YtapddijogfpkaacMath2
import Derived.Test.YtapddijogfpkaacWd
import Derived.Maps.AppendAt
namespace Go.Proofs.Ytapddijogfpkaac
open Go.RowKit

theorem info5 : (Try.prog.info? 5).map (fun i => (i.zero, i.size, i.bytes)) = some (some (.int .u8 0), 1, 1) := by kernel_rfl
end Go.Proofs.Ytapddijogfpkaac
