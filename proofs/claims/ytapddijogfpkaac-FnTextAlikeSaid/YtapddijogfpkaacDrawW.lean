/- The specification's drawer of words: l13Word, l13Words. -/
import Derived.Test.YtapddijogfpkaacDraw1
import Derived.Test.YtapddijogfpkaacMany
import Derived.Test.YtapddijogfpkaacBytes
namespace Go.Proofs.Ytapddijogfpkaac
open Go.RowKit
theorem str8 (n : Int) : (⟨(leB n 8).toArray⟩ : ByteArray).size = 8 := by simp [ByteArray.size, leB_length]
theorem rep8 (l : List UInt8) (k : Nat) : (⟨(repL l k).toArray⟩ : ByteArray).size = l.length * k := by simp [ByteArray.size, repL_length]
end Go.Proofs.Ytapddijogfpkaac
