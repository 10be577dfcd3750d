/- The specification's l1Size and l1Fits. -/
import Derived.Test.YtliiffpegfkpbabIn
import Derived.Test.YtliiffpegfkpbabWalk1
namespace Go.Proofs.Ytliiffpegfkpbab
open Go.RowKit
def sizeB (n : Int) : Bool := decide (n = 1 ∨ n = 2 ∨ n = 4 ∨ n = 8)
set_option maxHeartbeats 400000 in
theorem l1Size_any (n : Int) (w : World) :
    Calls Try.prog 11 #[.int .i64 n] w fun e w' => e = .returned (.bool (sizeB n)) ∧ w = w' := by
  by_cases hz : n = 1 ∨ n = 2 ∨ n = 4 ∨ n = 8
  · rcases hz with rfl | rfl | rfl | rfl
    all_goals
      go_enter Try.func11, Try.ntmps11
      go_wp2
      go_ret
      exact ⟨ret_bool (by decide), rfl⟩
  · have b1 : (n == 1) = false := by simp; omega
    have b2 : (n == 2) = false := by simp; omega
    have b3 : (n == 4) = false := by simp; omega
    have b4 : (n == 8) = false := by simp; omega
    go_enter Try.func11, Try.ntmps11
    go_wp2
    go_ret
    refine ⟨ret_bool ?_, rfl⟩
    simp only [sizeB, hz, decide_false]

set_option maxHeartbeats 400000 in
theorem l1Fits_any (n size : Int) (w : World) (hz : size = 1 ∨ size = 2 ∨ size = 4 ∨ size = 8) :
    Calls Try.prog 12 #[.int .i64 n, .int .i64 size] w fun e w' => e = .returned (.bool (fitsB n size)) ∧ w = w' := by
  rcases hz with rfl | rfl | rfl | rfl
  all_goals
    go_enter Try.func12, Try.ntmps12
    go_wp2_with (first | (go_at_call 8; refine (l1In_any _ _ _ _).mono ?_; rintro e w' ⟨rfl, rfl⟩))
    go_ret
    refine ⟨ret_bool ?_, rfl⟩
    rw [Bool.eq_iff_iff]; simp [fitsB, inB]; try omega

end Go.Proofs.Ytliiffpegfkpbab
