/- The walk of the law FnExactUnpack. -/
import Derived.Test.YtgeldgikjcihgaaUnpackS
namespace Go.Proofs.Ytgeldgikjcihgaa
open Go.RowKit
theorem unV_form (s : ByteArray) : ∃ X b, unV s = .tuple #[.string X, .bool b] := by
  unfold unV
  split
  · exact ⟨_, _, rfl⟩
  · exact ⟨_, _, rfl⟩
set_option maxHeartbeats 1000000 in
theorem walkExactUnpack (s : ByteArray) (hs : s.size ≤ maxLen) (w : World) :
    Calls Try.prog 8 #[.string s] w fun e w' => e = .returned (.bool true) ∧ Below w.heap.size w w' := by
  have hs' := hs
  unfold maxLen at hs'
  by_cases hbig : 1048576 < s.size
  · go_enter Try.func8, Try.ntmps8
    go_wp2
    go_ret
    exact ⟨rfl, Below.refl _ _⟩
  obtain ⟨X, b, hv⟩ := unV_form s
  have hI := fun w => implUnpack_any s w
  have hS := fun w => specUnpack_any s w (by omega)
  rw [hv] at hI hS
  have HI := Lib.hid hI
  have HS := Lib.hid hS
  clear hI hS hv
  go_enter Try.func8, Try.ntmps8
  go_wp2_with fail
  with_reducible (refine (HS.out _).mono ?_)
  rintro e w1 ⟨rfl, hb1⟩
  have HB1 := Lib.hid hb1
  clear hb1
  go_wp2_with fail
  with_reducible (refine (HI.out _).mono ?_)
  rintro e w2 ⟨rfl, hb2⟩
  have HB2 := Lib.hid (HB1.out.trans (hb2.mono HB1.out.size))
  clear hb2
  cases b
  all_goals
    go_wp2
    go_ret
    exact ⟨rfl, HB2.out⟩
end Go.Proofs.Ytgeldgikjcihgaa
