/- the specification's Trim. -/
import Derived.Test.YtliiffpegfkpbaaTrimS2
import Derived.Test.YtliiffpegfkpbaaSpec1
import Derived.Deep.DeepMust
namespace Go.Proofs.Ytliiffpegfkpbaa
open Go.RowKit
/-- what Trim answers. -/
def trimB (l : List UInt8) : List UInt8 := if wordsB l.length = true then l.take (8 * trimN l (l.length / 8)) else []
set_option maxHeartbeats 400000 in
theorem specTrim_any (s : ByteArray) (w : World) (hs : s.size ≤ maxLen) :
    Calls Try.prog 24 #[.string s] w fun e w' => e = .returned (.string ⟨(trimB s.data.toList).toArray⟩) ∧ w = w' := by
  have hsl : s.data.toList.length = s.size := by simp
  cases hw : wordsB s.size
  · have hT : trimB s.data.toList = [] := by rw [trimB, hsl, hw, if_neg (by simp)]
    have HT := Lib.hid hT
    clear hT hsl
    go_enter Try.func24, Try.ntmps24
    go_wp2_with (go_at_call 36; refine (l1Ok_any _ _ hs).mono ?_; rintro e w' ⟨rfl, rfl⟩)
    go_ret
    exact ⟨ret_str (by rw [HT.out]), rfl⟩
  · have hT : trimB s.data.toList = s.data.toList.take (8 * trimN s.data.toList (s.size / 8)) := by rw [trimB, hsl, if_pos hw]
    have h8 : s.size = 8 * (s.size / 8) := by
      have h : s.size % 8 = 0 ∧ s.size ≤ 1600 := by simpa [wordsB] using hw
      omega
    have HT := Lib.hid hT
    have H8 := Lib.hid h8
    clear hT hsl h8
    go_enter Try.func24, Try.ntmps24
    go_wp2_with (first | (go_at_call 36; refine (l1Ok_any _ _ hs).mono ?_; rintro e w' ⟨rfl, rfl⟩) | (go_at_call 51; refine (l1Trim_any s _ _ hs H8.out).mono ?_; rintro e w' ⟨rfl, rfl⟩))
    go_ret
    exact ⟨ret_str (by rw [HT.out]), rfl⟩
end Go.Proofs.Ytliiffpegfkpbaa
