/- The walk of the law FnExactPut: true at every argument. -/
import Derived.Test.YtliiffpegfkpbaaPut3
import Derived.OpenShut
namespace Go.Proofs.Ytliiffpegfkpbaa
open Go.RowKit
set_option maxHeartbeats 400000 in
theorem walkExactPut (s : ByteArray) (hs : s.size ≤ maxLen) (at_ : Int) (_w1 : (Lit.int .i64 at_).wf = true) (size : Int) (w2 : (Lit.int .i64 size).wf = true) (n : Int) (w3 : (Lit.int .i64 n).wf = true) (w : World) :
    Calls Try.prog 10 #[.string s, .int .i64 at_, .int .i64 size, .int .i64 n] w fun e w' => e = .returned (.bool true) ∧ Below w.heap.size w w' := by
  have hs' := hs
  unfold maxLen at hs'
  have hz := wf_bd w2
  have hn := wf_bd w3
  by_cases hbig : 1048576 < s.size
  · go_enter Try.func10, Try.ntmps10
    go_wp2
    go_ret
    exact ⟨rfl, Below.refl _ _⟩
  · go_enter Try.func10, Try.ntmps10
    go_wp2_with (first | (go_at_call 13; go_must (refine (specPut_any _ _ _ _ _ hs hz).mono ?_); rintro e w1 ⟨rfl, hb1⟩) | (go_at_call 12; go_must (refine (implPut_any _ _ _ _ _ hs hn).mono ?_); rintro e w2 ⟨rfl, hb2⟩))
    go_ret
    exact ⟨rfl, hb1.trans (hb2.mono hb1.size)⟩
end Go.Proofs.Ytliiffpegfkpbaa
