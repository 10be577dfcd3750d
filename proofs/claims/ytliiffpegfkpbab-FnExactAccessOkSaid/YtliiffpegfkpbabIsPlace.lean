/- impl.isPlace. -/
import Derived.Test.YtliiffpegfkpbabWordAt
import Derived.WalkKit
import Derived.WalkSpells
import Derived.WalkLawsBesides
import Derived.Deep.QuietTactic
import Derived.BigQuiet
import Derived.Lib.Hide
import Derived.Deep.RegionLaw
namespace Go.Proofs.Ytliiffpegfkpbab
open Go.RowKit

def widthB (size : Int) : Bool := decide (size = 1 ∨ size = 2 ∨ size = 4 ∨ size = 8)
def placeB (at_ size : Int) : Bool := decide (0 ≤ at_ ∧ at_ ≤ 1600 ∧ ((size = 1 ∨ size = 2 ∨ size = 4 ∨ size = 8) ∧ at_ % size = 0))
set_option maxHeartbeats 400000 in
theorem isWidth_any (size : Int) (w : World) :
    Calls Try.prog 23 #[.int .i64 size] w fun e w' => e = .returned (.bool (widthB size)) ∧ w = w' := by
  by_cases hz : size = 1 ∨ size = 2 ∨ size = 4 ∨ size = 8
  · rcases hz with rfl | rfl | rfl | rfl
    all_goals
      go_enter Try.func23, Try.ntmps23
      go_wp2
      all_goals go_ret
      all_goals exact ⟨ret_bool (by decide), rfl⟩
  · have b1 : (size == 1) = false := by simp; omega
    have b2 : (size == 2) = false := by simp; omega
    have b3 : (size == 4) = false := by simp; omega
    have b4 : (size == 8) = false := by simp; omega
    have hw : widthB size = false := by simp only [widthB, hz, decide_false]
    have HW := Lib.hid hw
    clear hw
    go_enter Try.func23, Try.ntmps23
    go_wp2
    go_ret
    exact ⟨by rw [HW.out]; rfl, rfl⟩
end Go.Proofs.Ytliiffpegfkpbab
