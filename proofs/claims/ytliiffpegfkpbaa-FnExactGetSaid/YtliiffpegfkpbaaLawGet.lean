/- The walk of the law FnExactGet. -/
import Derived.Test.YtliiffpegfkpbaaGet
import Derived.Test.YtliiffpegfkpbaaSpec1
namespace Go.Proofs.Ytliiffpegfkpbaa
open Go.RowKit
set_option maxHeartbeats 400000 in
theorem walkExactGet (s : ByteArray) (hs : s.size ≤ maxLen) (at_ : Int) (_w1 : (Lit.int .i64 at_).wf = true) (size : Int) (_w2 : (Lit.int .i64 size).wf = true) (w : World) :
    Calls Try.prog 9 #[.string s, .int .i64 at_, .int .i64 size] w fun e w' => e = .returned (.bool true) ∧ Below w.heap.size w w' := by
  have hs' := hs
  unfold maxLen at hs'
  by_cases hbig : 1048576 < s.size
  · go_enter Try.func9, Try.ntmps9
    go_wp2
    go_ret
    exact ⟨rfl, Below.refl _ _⟩
  · go_enter Try.func9, Try.ntmps9
    go_wp2_with (first | (go_at_call 15; refine (specGet_any _ _ _ _ hs).mono ?_; rintro e w' ⟨rfl, rfl⟩) | (go_at_call 14; refine (implGet_any _ _ _ _ hs).mono ?_; rintro e w1 ⟨rfl, hb⟩))
    go_ret
    exact ⟨rfl, hb⟩
end Go.Proofs.Ytliiffpegfkpbaa
