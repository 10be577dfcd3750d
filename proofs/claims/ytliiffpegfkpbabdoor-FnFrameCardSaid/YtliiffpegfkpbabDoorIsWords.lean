/- impl.isWords. -/
import Derived.Test.YtliiffpegfkpbabDoorIn
namespace Go.Proofs.YtliiffpegfkpbabDoor
open Go.RowKit
def wordsB (n : Nat) : Bool := decide (n % 8 = 0 ∧ n ≤ 1600)
set_option maxHeartbeats 400000 in
theorem isWords_any (s : ByteArray) (w : World) (hs : s.size ≤ maxLen) :
    Calls Tryd.prog 34 #[.string s] w fun e w' => e = .returned (.bool (wordsB s.size)) ∧ w = w' := by
  unfold maxLen at hs
  by_cases h1 : s.size % 8 = 0
  all_goals
    go_enter Tryd.func34, Tryd.ntmps34
    go_wp2
    go_ret
    refine ⟨ret_bool ?_, rfl⟩
    simp [wordsB, h1]
  omega
end Go.Proofs.YtliiffpegfkpbabDoor
