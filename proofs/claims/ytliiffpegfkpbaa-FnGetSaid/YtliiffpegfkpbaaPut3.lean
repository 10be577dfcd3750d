/- spec.Put: what it answers at every argument. -/
import Derived.Test.YtliiffpegfkpbaaPut2
namespace Go.Proofs.Ytliiffpegfkpbaa
open Go.RowKit

theorem l1Bytes_str (n : Int) (k : Nat) (hk : k ≤ 8) (w : World) :
    Calls Try.prog 39 #[.int .i64 n, .int .i64 k] w fun e w' => e = .returned (.string ⟨(leB n k).toArray⟩) ∧ Below w.heap.size w w' :=
  l1Bytes_any n k w (by omega) (by omega)

set_option maxHeartbeats 1000000 in
theorem specPut_yes (s : ByteArray) (a z : Nat) (n : Int) (w : World) (hs : s.size ≤ maxLen) (hw : wordsB s.size = true) (hz : z = 1 ∨ z = 2 ∨ z = 4 ∨ z = 8) (hf : fitsB n z = true) (hm : (a : Int) % z = 0) (hin : a + z ≤ s.size) :
    Calls Try.prog 13 #[.string s, .int .i64 a, .int .i64 z, .int .i64 n] w fun e w' =>
      e = .returned (.tuple #[.string ⟨(putL s.data.toList a (leB n z)).toArray⟩, .bool true]) ∧ Below w.heap.size w w' := by
  have hfin := put_string s a (leB n z) z (leB_length n z) hin
  rw [← hfin]
  clear hfin
  have hs' := hs
  unfold maxLen at hs'
  have hz8 : z ≤ 8 := by omega
  have hsb : sizeB z = true := by simp [sizeB]; omega
  have hgt : (a : Int) ≤ (s.size : Int) - z := by omega
  have hm0 : ((a : Int) % z != 0) = false := by rw [hm]; rfl
  have hz1 : 1 ≤ z := by omega
  have HM := Lib.hid hm
  have hzz : (z : Int) = 1 ∨ (z : Int) = 2 ∨ (z : Int) = 4 ∨ (z : Int) = 8 := by omega
  have HZ := Lib.hid hzz
  have e1 : IntKind.i64.wrap ((a : Int) + z) = (a : Int) + z := by rw [IntKind.wrap_i64]; omega
  have e2 : (0 : Int) ≤ (a : Int) := by omega
  have e3 : (a : Int) ≤ (s.size : Int) := by omega
  have e6 : (0 : Int) ≤ (a : Int) + z := by omega
  have e7 : (a : Int) + z ≤ (s.size : Int) := by omega
  have e8 : ((a : Int) + z).toNat = a + z := by omega
  have em : min a s.size = a := by omega
  have hbl := leB_length n z
  have f1 : ¬ 9223372036854775807 < a + z := by omega
  have f3 : ¬ 9223372036854775807 < s.size := by omega
  have f2 : ¬ 9223372036854775807 < a + z + (s.size - (a + z)) := by omega
  clear hzz hz hm
  go_enter Try.func13, Try.ntmps13
  go_wp2_with (first | (go_at_call 36; refine (l1Ok_any _ _ hs).mono ?_; rintro e w' ⟨rfl, rfl⟩) | (go_at_call 37; refine (l1Size_any _ _).mono ?_; rintro e w' ⟨rfl, rfl⟩) | (go_at_call 38; refine (l1Fits_any _ _ _ HZ.out).mono ?_; rintro e w' ⟨rfl, rfl⟩))
  go_region_law (first | (go_simp; go_at_call 39; refine (l1Bytes_str n z hz8 _).mono ?_; rintro e w5 ⟨rfl, hb5⟩))
  all_goals
    clear e1 e2 e3 e6 e7 e8 em f1 f2 f3 hm0
    have hB : Hid (Below w.heap.size w w5) := ((Below.refl w.heap.size w).drew).trans (hb5.mono (by simp))
    clear hb5
    go_wp2
    go_ret2
    exact ⟨rfl, hB.out⟩

set_option maxHeartbeats 1000000 in
theorem specPut_any (s : ByteArray) (at_ size n : Int) (w : World) (hs : s.size ≤ maxLen) (hr : -9223372036854775808 ≤ size ∧ size ≤ 9223372036854775807) :
    Calls Try.prog 13 #[.string s, .int .i64 at_, .int .i64 size, .int .i64 n] w fun e w' =>
      e = .returned (.tuple #[.string ⟨(putT s.data.toList at_ size n).toArray⟩, .bool (putB s.data.toList at_ size n)]) ∧ Below w.heap.size w w' := by
  have hsl : s.data.toList.length = s.size := by simp
  have hs' := hs
  unfold maxLen at hs'
  cases hw : wordsB s.size
  · have hT : putT s.data.toList at_ size n = [] := by rw [putT, hsl, hw, if_neg (by simp)]
    have hB : putB s.data.toList at_ size n = false := by rw [putB, hsl, hw, Bool.false_and]
    rw [hT, hB]
    clear hT hB hsl
    go_enter Try.func13, Try.ntmps13
    go_wp2_with (first | (go_at_call 36; refine (l1Ok_any _ _ hs).mono ?_; rintro e w' ⟨rfl, rfl⟩))
    go_ret2
    exact ⟨rfl, Below.refl _ _⟩
  have hw8 : s.size % 8 = 0 ∧ s.size ≤ 1600 := by simpa [wordsB] using hw
  obtain ⟨hw1, hw2⟩ := hw8
  have hp := placeB_eq at_ size
  by_cases hok : putOk s.data.toList at_ size n = true
  · have hT : putT s.data.toList at_ size n = putL s.data.toList at_.toNat (leB n size.toNat) := by rw [putT, hsl, hw, hok, if_pos rfl, if_pos rfl]
    have hB : putB s.data.toList at_ size n = true := by rw [putB, hsl, hw, hok]; rfl
    have hk : placeB at_ size = true ∧ at_ < s.size ∧ fitsB n size = true := by simpa [putOk] using hok
    obtain ⟨k1, k2, k3⟩ := hk
    have hp' : 0 ≤ at_ ∧ at_ ≤ 1600 ∧ ((size = 1 ∨ size = 2 ∨ size = 4 ∨ size = 8) ∧ at_ % size = 0) := by simpa [placeB] using k1
    obtain ⟨ha0, ha1, hz, hm⟩ := hp'
    obtain ⟨a, rfl⟩ := Int.eq_ofNat_of_zero_le ha0
    obtain ⟨z, rfl⟩ := Int.eq_ofNat_of_zero_le (show 0 ≤ size by omega)
    rw [hT, hB]
    exact specPut_yes s a z n w hs hw (by omega) k3 hm (by rcases hz with h | h | h | h <;> rw [h] at hm <;> omega)
  have hT : putT s.data.toList at_ size n = s.data.toList := by rw [putT, hsl, hw, if_pos rfl, if_neg hok]
  have hB : putB s.data.toList at_ size n = false := by rw [putB, Bool.eq_false_iff.2 hok, Bool.and_false]
  rw [hT, hB, ba_eta]
  clear hT hB
  have hok' : ¬ (placeB at_ size = true ∧ at_ < s.size ∧ fitsB n size = true) := by simpa [putOk] using hok
  clear hok
  cases hz : sizeB size
  · clear hp hok' hsl
    go_enter Try.func13, Try.ntmps13
    go_wp2_with (first | (go_at_call 36; refine (l1Ok_any _ _ hs).mono ?_; rintro e w' ⟨rfl, rfl⟩) | (go_at_call 37; refine (l1Size_any _ _).mono ?_; rintro e w' ⟨rfl, rfl⟩))
    go_ret2
    exact ⟨rfl, Below.refl _ _⟩
  have hz' : size = 1 ∨ size = 2 ∨ size = 4 ∨ size = 8 := by simpa [sizeB] using hz
  have h1 : 1 ≤ size := by omega
  have h8 : size ≤ 8 := by omega
  by_cases ha0 : at_ < 0
  · clear hp hok' hsl hz'
    go_enter Try.func13, Try.ntmps13
    go_wp2_with (first | (go_at_call 36; refine (l1Ok_any _ _ hs).mono ?_; rintro e w' ⟨rfl, rfl⟩) | (go_at_call 37; refine (l1Size_any _ _).mono ?_; rintro e w' ⟨rfl, rfl⟩))
    go_ret2
    exact ⟨rfl, Below.refl _ _⟩
  have ha0 : 0 ≤ at_ := by omega
  by_cases ha1 : (s.size : Int) - size < at_
  · clear hp hok' hsl hz'
    go_enter Try.func13, Try.ntmps13
    go_wp2_with (first | (go_at_call 36; refine (l1Ok_any _ _ hs).mono ?_; rintro e w' ⟨rfl, rfl⟩) | (go_at_call 37; refine (l1Size_any _ _).mono ?_; rintro e w' ⟨rfl, rfl⟩))
    go_ret2
    exact ⟨rfl, Below.refl _ _⟩
  have ha1 : at_ ≤ (s.size : Int) - size := by omega
  by_cases hm : at_ % size = 0
  · have hf : fitsB n size = false := by
      rw [Bool.eq_false_iff]
      intro hf
      refine hok' ⟨?_, by omega, hf⟩
      rw [hp, hz]
      simp [inB, hm]
      omega
    have HZ := Lib.hid hz'
    have hm0 : (at_ % size != 0) = false := by rw [hm]; rfl
    clear hp hok' hsl hz' hm
    go_enter Try.func13, Try.ntmps13
    go_wp2_with (first | (go_at_call 36; refine (l1Ok_any _ _ hs).mono ?_; rintro e w' ⟨rfl, rfl⟩) | (go_at_call 37; refine (l1Size_any _ _).mono ?_; rintro e w' ⟨rfl, rfl⟩) | (go_at_call 38; refine (l1Fits_any _ _ _ HZ.out).mono ?_; rintro e w' ⟨rfl, rfl⟩))
    go_ret2
    exact ⟨rfl, Below.refl _ _⟩
  · have hm0 : (at_ % size != 0) = true := by simpa using hm
    clear hp hok' hsl hz' hm
    go_enter Try.func13, Try.ntmps13
    go_wp2_with (first | (go_at_call 36; refine (l1Ok_any _ _ hs).mono ?_; rintro e w' ⟨rfl, rfl⟩) | (go_at_call 37; refine (l1Size_any _ _).mono ?_; rintro e w' ⟨rfl, rfl⟩))
    go_ret2
    exact ⟨rfl, Below.refl _ _⟩

end Go.Proofs.Ytliiffpegfkpbaa
