/- The table that the program's text lays: five places of it. -/
import Derived.Test.YtfgebmmnlneciaaDoorRows
import Derived.Test.YtfgebmmnlneciaaDoorScale
import Derived.Lib.LaidTab
import Derived.Stop.LaidErr
import Derived.MakeChecks
namespace Go.Proofs.YtfgebmmnlneciaaDoor
open Go.RowKit
def tab64 : List Int := [0, 1, 56, 2, 57, 49, 28, 3, 61, 58, 42, 50, 38, 29, 17, 4, 62, 47, 59, 36, 45, 43, 51, 22, 53, 39, 33, 30, 24, 18, 12, 5, 63, 55, 48, 27, 60, 41, 37, 16, 46, 35, 44, 21, 52, 32, 23, 11, 54, 26, 40, 15, 34, 20, 31, 10, 25, 14, 19, 9, 13, 8, 7, 6]
theorem tab64_eq : (Rows.laid_math_bits_deBruijn64tab (H := Unit)) = Lib.tabData .u8 tab64 := by rfl
theorem tab_of {W : World} (h : laidMetH Tryd.prog [("math/bits.deBruijn32tab", Rows.laid_math_bits_deBruijn32tab), ("math/bits.deBruijn64tab", Rows.laid_math_bits_deBruijn64tab)] W) : Tab W := by
  rw [MakeChecks.laidMetH_plain _ _ _ (by kernel_rfl)] at h
  have h1 := laidMet.tail h
  rw [tab64_eq] at h1
  have hT := Lib.tabIs_of_head (g := 1) (t := 93) (e := 5) (n := 64) (by kernel_rfl) (by kernel_rfl) Tryd.underlying93 Tryd.underlying5 (by kernel_rfl) (by kernel_rfl) h1
  have hg : Tryd.prog.globalNamed "math/bits.deBruijn64tab" = some 1 := by kernel_rfl
  exact ⟨hT.cell hg 0 (by decide), hT.cell hg 7 (by decide), hT.cell hg 15 (by decide), hT.cell hg 31 (by decide), hT.cell hg 63 (by decide)⟩
theorem Tab.lt {W : World} (h : Tab W) : 1 < W.heap.size := World.block_lt_of_cell? W _ h.t0
end Go.Proofs.YtfgebmmnlneciaaDoor
