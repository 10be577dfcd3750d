/- the specification's l1Ok, l1Size, l1Get and Get: what they answer. -/
import Derived.Test.YtliiffpegfkpbaaWalk1
import Derived.Test.YtliiffpegfkpbaaL1Get
import Derived.Test.YtliiffpegfkpbaaGetDef
namespace Go.Proofs.Ytliiffpegfkpbaa
open Go.RowKit

set_option maxHeartbeats 400000 in
theorem l1Ok_any (s : ByteArray) (w : World) (hs : s.size ≤ maxLen) :
    Calls Try.prog 36 #[.string s] w fun e w' => e = .returned (.bool (wordsB s.size)) ∧ w = w' := by
  unfold maxLen at hs
  by_cases h1 : s.size % 8 = 0
  all_goals
    go_enter Try.func36, Try.ntmps36
    go_wp2
    go_ret
    refine ⟨ret_bool ?_, rfl⟩
    simp [wordsB, h1]
  omega

def sizeB (n : Int) : Bool := decide (n = 1 ∨ n = 2 ∨ n = 4 ∨ n = 8)
set_option maxHeartbeats 400000 in
theorem l1Size_any (n : Int) (w : World) :
    Calls Try.prog 37 #[.int .i64 n] w fun e w' => e = .returned (.bool (sizeB n)) ∧ w = w' := by
  by_cases hz : n = 1 ∨ n = 2 ∨ n = 4 ∨ n = 8
  · rcases hz with rfl | rfl | rfl | rfl
    all_goals
      go_enter Try.func37, Try.ntmps37
      go_wp2
      go_ret
      exact ⟨ret_bool (by decide), rfl⟩
  · have b1 : (n == 1) = false := by simp; omega
    have b2 : (n == 2) = false := by simp; omega
    have b3 : (n == 4) = false := by simp; omega
    have b4 : (n == 8) = false := by simp; omega
    go_enter Try.func37, Try.ntmps37
    go_wp2
    go_ret
    refine ⟨ret_bool ?_, rfl⟩
    simp only [sizeB, hz, decide_false]

theorem placeB_eq (at_ size : Int) : placeB at_ size = (sizeB size && (inB at_ 0 1600 && decide (at_ % size = 0))) := by
  rw [Bool.eq_iff_iff]; simp [placeB, sizeB, inB, and_assoc, and_comm, and_left_comm]

set_option maxHeartbeats 400000 in
theorem specGet_any (s : ByteArray) (at_ size : Int) (w : World) (hs : s.size ≤ maxLen) :
    Calls Try.prog 15 #[.string s, .int .i64 at_, .int .i64 size] w fun e w' => e = .returned (.int .i64 (getI s.data.toList at_ size)) ∧ w = w' := by
  have hp := placeB_eq at_ size
  have hsl : s.data.toList.length = s.size := by simp
  cases hw : wordsB s.size
  · have hG : getI s.data.toList at_ size = 0 := by rw [getI, hsl, hw, if_neg (by simp)]
    rw [hG]
    clear hp hG hsl
    go_enter Try.func15, Try.ntmps15
    go_wp2_with (first | (go_at_call 36; refine (l1Ok_any _ _ hs).mono ?_; rintro e w' ⟨rfl, rfl⟩) | (go_at_call 37; refine (l1Size_any _ _).mono ?_; rintro e w' ⟨rfl, rfl⟩) | (go_at_call 41; refine (l1In_any _ _ _ _).mono ?_; rintro e w' ⟨rfl, rfl⟩) | (go_at_call 42; refine (l1Get_any _ _ _ _ hs (by omega) (by omega) (by omega) (by omega)).mono ?_; rintro e w' ⟨rfl, rfl⟩))
    go_ret
    exact ⟨rfl, rfl⟩
  cases hz : sizeB size
  · have hG : getI s.data.toList at_ size = 0 := by rw [getI, hp, hz, if_neg (by simp)]
    rw [hG]
    clear hp hG hsl
    go_enter Try.func15, Try.ntmps15
    go_wp2_with (first | (go_at_call 36; refine (l1Ok_any _ _ hs).mono ?_; rintro e w' ⟨rfl, rfl⟩) | (go_at_call 37; refine (l1Size_any _ _).mono ?_; rintro e w' ⟨rfl, rfl⟩) | (go_at_call 41; refine (l1In_any _ _ _ _).mono ?_; rintro e w' ⟨rfl, rfl⟩) | (go_at_call 42; refine (l1Get_any _ _ _ _ hs (by omega) (by omega) (by omega) (by omega)).mono ?_; rintro e w' ⟨rfl, rfl⟩))
    go_ret
    exact ⟨rfl, rfl⟩
  have hz' : size = 1 ∨ size = 2 ∨ size = 4 ∨ size = 8 := by simpa [sizeB] using hz
  cases hi : inB at_ 0 1600
  · have hG : getI s.data.toList at_ size = 0 := by rw [getI, hp, hi, if_neg (by simp)]
    rw [hG]
    clear hp hG hsl hz'
    go_enter Try.func15, Try.ntmps15
    go_wp2_with (first | (go_at_call 36; refine (l1Ok_any _ _ hs).mono ?_; rintro e w' ⟨rfl, rfl⟩) | (go_at_call 37; refine (l1Size_any _ _).mono ?_; rintro e w' ⟨rfl, rfl⟩) | (go_at_call 41; refine (l1In_any _ _ _ _).mono ?_; rintro e w' ⟨rfl, rfl⟩) | (go_at_call 42; refine (l1Get_any _ _ _ _ hs (by omega) (by omega) (by omega) (by omega)).mono ?_; rintro e w' ⟨rfl, rfl⟩))
    go_ret
    exact ⟨rfl, rfl⟩
  have hi' : 0 ≤ at_ ∧ at_ ≤ 1600 := by simpa [inB] using hi
  obtain ⟨ha0, ha1⟩ := hi'
  by_cases hm : at_ % size = 0
  · have hG : getI s.data.toList at_ size = wrap64 (leN s.data.toList at_.toNat size.toNat : Nat) := by
      rw [getI, hsl, hp, hz, hi, if_pos ⟨hw, by simpa using hm⟩]
    have HG := Lib.hid hG
    clear hp hG hsl
    rcases hz' with rfl | rfl | rfl | rfl
    all_goals
      go_enter Try.func15, Try.ntmps15
      go_wp2_with (first | (go_at_call 36; refine (l1Ok_any _ _ hs).mono ?_; rintro e w' ⟨rfl, rfl⟩) | (go_at_call 37; refine (l1Size_any _ _).mono ?_; rintro e w' ⟨rfl, rfl⟩) | (go_at_call 41; refine (l1In_any _ _ _ _).mono ?_; rintro e w' ⟨rfl, rfl⟩) | (go_at_call 42; refine (l1Get_any _ _ _ _ hs (by omega) (by omega) (by omega) (by omega)).mono ?_; rintro e w' ⟨rfl, rfl⟩))
      go_ret
      exact ⟨ret_int HG.out.symm, rfl⟩
  · have hG : getI s.data.toList at_ size = 0 := by rw [getI, hp, if_neg (by simp [hm])]
    rw [hG]
    clear hp hG hsl
    rcases hz' with rfl | rfl | rfl | rfl
    all_goals
      first
      | (exfalso; omega)
      | (go_enter Try.func15, Try.ntmps15
         go_wp2_with (first | (go_at_call 36; refine (l1Ok_any _ _ hs).mono ?_; rintro e w' ⟨rfl, rfl⟩) | (go_at_call 37; refine (l1Size_any _ _).mono ?_; rintro e w' ⟨rfl, rfl⟩) | (go_at_call 41; refine (l1In_any _ _ _ _).mono ?_; rintro e w' ⟨rfl, rfl⟩) | (go_at_call 42; refine (l1Get_any _ _ _ _ hs (by omega) (by omega) (by omega) (by omega)).mono ?_; rintro e w' ⟨rfl, rfl⟩))
         go_ret
         exact ⟨rfl, rfl⟩)

end Go.Proofs.Ytliiffpegfkpbaa
