/- impl.fitsBytes. -/
import Derived.Test.YtliiffpegfkpbabIsPlace
namespace Go.Proofs.Ytliiffpegfkpbab
open Go.RowKit
def fitsB (n size : Int) : Bool := decide (size = 8 ∨ (0 ≤ n ∧ n < 256 ^ size.toNat))
set_option maxHeartbeats 400000 in
theorem fitsBytes_any (n size : Int) (w : World) (hz : size = 1 ∨ size = 2 ∨ size = 4 ∨ size = 8) (hn : -9223372036854775808 ≤ n ∧ n ≤ 9223372036854775807) :
    Calls Try.prog 21 #[.int .i64 n, .int .i64 size] w fun e w' => e = .returned (.bool (fitsB n size)) ∧ w = w' := by
  obtain ⟨hn1, hn2⟩ := hn
  rcases hz with rfl | rfl | rfl | rfl
  all_goals
    by_cases h0 : 0 ≤ n
    all_goals
      go_enter Try.func21, Try.ntmps21
      go_wp2
      all_goals go_ret
      all_goals refine ⟨ret_bool ?_, rfl⟩
      all_goals (simp [fitsB]; try omega)

end Go.Proofs.Ytliiffpegfkpbab
