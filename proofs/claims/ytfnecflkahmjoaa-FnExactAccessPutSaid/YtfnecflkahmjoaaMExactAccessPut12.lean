/- Texts of the proof of the law FnExactAccessPut, side by side: part 12. -/
import Derived.Test.YtfnecflkahmjoaaMExactAccessPut11
set_option maxHeartbeats 8000000
set_option maxRecDepth 100000
namespace Go.Proofs.Ytfnecflkahmjoaa
open Go.RowKit
theorem inB_m1 : inB (-1) 0 1598 = false := by decide
theorem specAcc_a_n (nm : ByteArray) (at_ sz tu : Int) (w : World) (hs : nm.size ≤ maxLen) (k : Int) (hN : nameB nm = false) :
 Calls Try.prog 20 #[accV nm k at_ sz tu (-1) 0] w fun e w' => e = .returned (.bool (accB nm k at_ sz tu (-1) 0)) ∧ Below w.heap.size w w' := by
 unfold accV
 have HV : Hid (accB nm k at_ sz tu (-1) 0 = false) := Lib.hid (by simp [accB, tagB, partsB, inB_m1, *])
 go_enter Try.func20, Try.ntmps20
 go_wp2_with (first | (go_at_call 33; refine (l1In_any _ _ _ _).mono ?_; rintro e w' ⟨rfl, rfl⟩) | (go_at_call 38; refine (l9Name_any _ _ hs).mono ?_; rintro e w' ⟨rfl, rfl⟩) | (go_at_call 39; refine (l12Apart_any _ _ _ _ (by omega) (by omega) (by omega)).mono ?_; rintro e w' ⟨rfl, rfl⟩) | (go_at_call 40; refine (l1Size_any _ _).mono ?_; rintro e w' ⟨rfl, rfl⟩) | (go_at_call 35; refine (l1Fits_any _ _ _ HZ.out).mono ?_; rintro e w' ⟨rfl, rfl⟩) | (go_at_call 41; refine (l9Num_any _ _).mono ?_; rintro e w' ⟨rfl, rfl⟩))
 go_ret
 exact ⟨by rw [HV.out]; rfl, (Below.refl _ _).alloc (Nat.le_refl _) _⟩
theorem specAcc_a_p (nm : ByteArray) (at_ sz tu : Int) (w : World) (hs : nm.size ≤ maxLen) (k : Int) (hN : nameB nm = true) (hA : inB at_ 0 12799 = false) :
 Calls Try.prog 20 #[accV nm k at_ sz tu (-1) 0] w fun e w' => e = .returned (.bool (accB nm k at_ sz tu (-1) 0)) ∧ Below w.heap.size w w' := by
 unfold accV
 have HV : Hid (accB nm k at_ sz tu (-1) 0 = false) := Lib.hid (by simp [accB, tagB, partsB, inB_m1, *])
 go_enter Try.func20, Try.ntmps20
 go_wp2_with (first | (go_at_call 33; refine (l1In_any _ _ _ _).mono ?_; rintro e w' ⟨rfl, rfl⟩) | (go_at_call 38; refine (l9Name_any _ _ hs).mono ?_; rintro e w' ⟨rfl, rfl⟩) | (go_at_call 39; refine (l12Apart_any _ _ _ _ (by omega) (by omega) (by omega)).mono ?_; rintro e w' ⟨rfl, rfl⟩) | (go_at_call 40; refine (l1Size_any _ _).mono ?_; rintro e w' ⟨rfl, rfl⟩) | (go_at_call 35; refine (l1Fits_any _ _ _ HZ.out).mono ?_; rintro e w' ⟨rfl, rfl⟩) | (go_at_call 41; refine (l9Num_any _ _).mono ?_; rintro e w' ⟨rfl, rfl⟩))
 go_ret
 exact ⟨by rw [HV.out]; rfl, (Below.refl _ _).alloc (Nat.le_refl _) _⟩
theorem specAcc_a_0 (nm : ByteArray) (at_ sz tu : Int) (w : World) (hs : nm.size ≤ maxLen) (k : Int) (k1 : (k == 1) = false) (k2 : (k == 2) = false) (k3 : (k == 3) = false) (hN : nameB nm = true) (hA : inB at_ 0 12799 = true) (hA0 : 0 ≤ at_) (hA9 : at_ ≤ 12799) :
 Calls Try.prog 20 #[accV nm k at_ sz tu (-1) 0] w fun e w' => e = .returned (.bool (accB nm k at_ sz tu (-1) 0)) ∧ Below w.heap.size w w' := by
 unfold accV
 have k1n : ¬ k = 1 := by simpa using k1
 have k2n : ¬ k = 2 := by simpa using k2
 have k3n : ¬ k = 3 := by simpa using k3
 have HV : Hid (accB nm k at_ sz tu (-1) 0 = false) := Lib.hid (by simp [accB, tagB, partsB, inB_m1, *])
 go_enter Try.func20, Try.ntmps20
 go_wp2_with (first | (go_at_call 33; refine (l1In_any _ _ _ _).mono ?_; rintro e w' ⟨rfl, rfl⟩) | (go_at_call 38; refine (l9Name_any _ _ hs).mono ?_; rintro e w' ⟨rfl, rfl⟩) | (go_at_call 39; refine (l12Apart_any _ _ _ _ (by omega) (by omega) (by omega)).mono ?_; rintro e w' ⟨rfl, rfl⟩) | (go_at_call 40; refine (l1Size_any _ _).mono ?_; rintro e w' ⟨rfl, rfl⟩) | (go_at_call 35; refine (l1Fits_any _ _ _ HZ.out).mono ?_; rintro e w' ⟨rfl, rfl⟩) | (go_at_call 41; refine (l9Num_any _ _).mono ?_; rintro e w' ⟨rfl, rfl⟩))
 go_ret
 exact ⟨by rw [HV.out]; rfl, (Below.refl _ _).alloc (Nat.le_refl _) _⟩
theorem specAcc_a_1 (nm : ByteArray) (at_ sz tu : Int) (w : World) (hs : nm.size ≤ maxLen) (hN : nameB nm = true) (hA : inB at_ 0 12799 = true) (hA0 : 0 ≤ at_) (hA9 : at_ ≤ 12799) :
 Calls Try.prog 20 #[accV nm 1 at_ sz tu (-1) 0] w fun e w' => e = .returned (.bool (accB nm 1 at_ sz tu (-1) 0)) ∧ Below w.heap.size w w' := by
 unfold accV
 by_cases hz : sz = 0
 · subst hz
   cases hT : inB tu 0 1
   · have hX := True.intro
     have HV : Hid (accB nm 1 at_ 0 tu (-1) 0 = false) := Lib.hid (by simp [accB, tagB, partsB, inB_m1, *])
     go_enter Try.func20, Try.ntmps20
     go_wp2_with (first | (go_at_call 33; refine (l1In_any _ _ _ _).mono ?_; rintro e w' ⟨rfl, rfl⟩) | (go_at_call 38; refine (l9Name_any _ _ hs).mono ?_; rintro e w' ⟨rfl, rfl⟩) | (go_at_call 39; refine (l12Apart_any _ _ _ _ (by omega) (by omega) (by omega)).mono ?_; rintro e w' ⟨rfl, rfl⟩) | (go_at_call 40; refine (l1Size_any _ _).mono ?_; rintro e w' ⟨rfl, rfl⟩) | (go_at_call 35; refine (l1Fits_any _ _ _ HZ.out).mono ?_; rintro e w' ⟨rfl, rfl⟩) | (go_at_call 41; refine (l9Num_any _ _).mono ?_; rintro e w' ⟨rfl, rfl⟩))
     go_ret
     exact ⟨by rw [HV.out]; rfl, (Below.refl _ _).alloc (Nat.le_refl _) _⟩
   · cases hQ : apartB (at_ / 8) 1 (-1)
     · have hX := True.intro
       have HV : Hid (accB nm 1 at_ 0 tu (-1) 0 = false) := Lib.hid (by simp [accB, tagB, partsB, inB_m1, *])
       go_enter Try.func20, Try.ntmps20
       go_wp2_with (first | (go_at_call 33; refine (l1In_any _ _ _ _).mono ?_; rintro e w' ⟨rfl, rfl⟩) | (go_at_call 38; refine (l9Name_any _ _ hs).mono ?_; rintro e w' ⟨rfl, rfl⟩) | (go_at_call 39; refine (l12Apart_any _ _ _ _ (by omega) (by omega) (by omega)).mono ?_; rintro e w' ⟨rfl, rfl⟩) | (go_at_call 40; refine (l1Size_any _ _).mono ?_; rintro e w' ⟨rfl, rfl⟩) | (go_at_call 35; refine (l1Fits_any _ _ _ HZ.out).mono ?_; rintro e w' ⟨rfl, rfl⟩) | (go_at_call 41; refine (l9Num_any _ _).mono ?_; rintro e w' ⟨rfl, rfl⟩))
       go_ret
       exact ⟨by rw [HV.out]; rfl, (Below.refl _ _).alloc (Nat.le_refl _) _⟩
     · have hX := True.intro
       have HV : Hid (accB nm 1 at_ 0 tu (-1) 0 = true) := Lib.hid (by simp [accB, tagB, partsB, inB_m1, *])
       go_enter Try.func20, Try.ntmps20
       go_wp2_with (first | (go_at_call 33; refine (l1In_any _ _ _ _).mono ?_; rintro e w' ⟨rfl, rfl⟩) | (go_at_call 38; refine (l9Name_any _ _ hs).mono ?_; rintro e w' ⟨rfl, rfl⟩) | (go_at_call 39; refine (l12Apart_any _ _ _ _ (by omega) (by omega) (by omega)).mono ?_; rintro e w' ⟨rfl, rfl⟩) | (go_at_call 40; refine (l1Size_any _ _).mono ?_; rintro e w' ⟨rfl, rfl⟩) | (go_at_call 35; refine (l1Fits_any _ _ _ HZ.out).mono ?_; rintro e w' ⟨rfl, rfl⟩) | (go_at_call 41; refine (l9Num_any _ _).mono ?_; rintro e w' ⟨rfl, rfl⟩))
       go_ret
       exact ⟨by rw [HV.out]; rfl, (Below.refl _ _).alloc (Nat.le_refl _) _⟩
 · have hz2 : (sz == 0) = false := by simpa using hz
   have HZN := Lib.hid hz
   have HV : Hid (accB nm 1 at_ sz tu (-1) 0 = false) := Lib.hid (by simp [accB, tagB, partsB, inB_m1, *])
   go_enter Try.func20, Try.ntmps20
   go_wp2_with (first | (go_at_call 33; refine (l1In_any _ _ _ _).mono ?_; rintro e w' ⟨rfl, rfl⟩) | (go_at_call 38; refine (l9Name_any _ _ hs).mono ?_; rintro e w' ⟨rfl, rfl⟩) | (go_at_call 39; refine (l12Apart_any _ _ _ _ (by omega) (by omega) (by omega)).mono ?_; rintro e w' ⟨rfl, rfl⟩) | (go_at_call 40; refine (l1Size_any _ _).mono ?_; rintro e w' ⟨rfl, rfl⟩) | (go_at_call 35; refine (l1Fits_any _ _ _ HZ.out).mono ?_; rintro e w' ⟨rfl, rfl⟩) | (go_at_call 41; refine (l9Num_any _ _).mono ?_; rintro e w' ⟨rfl, rfl⟩))
   go_ret
   exact ⟨by rw [HV.out]; rfl, (Below.refl _ _).alloc (Nat.le_refl _) _⟩
theorem specAcc_a_3 (nm : ByteArray) (at_ sz tu : Int) (w : World) (hs : nm.size ≤ maxLen) (hN : nameB nm = true) (hA : inB at_ 0 12799 = true) (hA0 : 0 ≤ at_) (hA9 : at_ ≤ 12799) :
 Calls Try.prog 20 #[accV nm 3 at_ sz tu (-1) 0] w fun e w' => e = .returned (.bool (accB nm 3 at_ sz tu (-1) 0)) ∧ Below w.heap.size w w' := by
 unfold accV
 by_cases hz : sz = 0
 · subst hz
   by_cases ht : tu = 0
   · subst ht
     have HV : Hid (accB nm 3 at_ 0 0 (-1) 0 = true) := Lib.hid (by simp [accB, tagB, partsB, inB_m1, *])
     go_enter Try.func20, Try.ntmps20
     go_wp2_with (first | (go_at_call 33; refine (l1In_any _ _ _ _).mono ?_; rintro e w' ⟨rfl, rfl⟩) | (go_at_call 38; refine (l9Name_any _ _ hs).mono ?_; rintro e w' ⟨rfl, rfl⟩) | (go_at_call 39; refine (l12Apart_any _ _ _ _ (by omega) (by omega) (by omega)).mono ?_; rintro e w' ⟨rfl, rfl⟩) | (go_at_call 40; refine (l1Size_any _ _).mono ?_; rintro e w' ⟨rfl, rfl⟩) | (go_at_call 35; refine (l1Fits_any _ _ _ HZ.out).mono ?_; rintro e w' ⟨rfl, rfl⟩) | (go_at_call 41; refine (l9Num_any _ _).mono ?_; rintro e w' ⟨rfl, rfl⟩))
     go_ret
     exact ⟨by rw [HV.out]; rfl, (Below.refl _ _).alloc (Nat.le_refl _) _⟩
   · have ht2 : (tu == 0) = false := by simpa using ht
     have HV : Hid (accB nm 3 at_ 0 tu (-1) 0 = false) := Lib.hid (by simp [accB, tagB, partsB, inB_m1, *])
     go_enter Try.func20, Try.ntmps20
     go_wp2_with (first | (go_at_call 33; refine (l1In_any _ _ _ _).mono ?_; rintro e w' ⟨rfl, rfl⟩) | (go_at_call 38; refine (l9Name_any _ _ hs).mono ?_; rintro e w' ⟨rfl, rfl⟩) | (go_at_call 39; refine (l12Apart_any _ _ _ _ (by omega) (by omega) (by omega)).mono ?_; rintro e w' ⟨rfl, rfl⟩) | (go_at_call 40; refine (l1Size_any _ _).mono ?_; rintro e w' ⟨rfl, rfl⟩) | (go_at_call 35; refine (l1Fits_any _ _ _ HZ.out).mono ?_; rintro e w' ⟨rfl, rfl⟩) | (go_at_call 41; refine (l9Num_any _ _).mono ?_; rintro e w' ⟨rfl, rfl⟩))
     go_ret
     exact ⟨by rw [HV.out]; rfl, (Below.refl _ _).alloc (Nat.le_refl _) _⟩
 · have hz2 : (sz == 0) = false := by simpa using hz
   have HV : Hid (accB nm 3 at_ sz tu (-1) 0 = false) := Lib.hid (by simp [accB, tagB, partsB, inB_m1, *])
   go_enter Try.func20, Try.ntmps20
   go_wp2_with (first | (go_at_call 33; refine (l1In_any _ _ _ _).mono ?_; rintro e w' ⟨rfl, rfl⟩) | (go_at_call 38; refine (l9Name_any _ _ hs).mono ?_; rintro e w' ⟨rfl, rfl⟩) | (go_at_call 39; refine (l12Apart_any _ _ _ _ (by omega) (by omega) (by omega)).mono ?_; rintro e w' ⟨rfl, rfl⟩) | (go_at_call 40; refine (l1Size_any _ _).mono ?_; rintro e w' ⟨rfl, rfl⟩) | (go_at_call 35; refine (l1Fits_any _ _ _ HZ.out).mono ?_; rintro e w' ⟨rfl, rfl⟩) | (go_at_call 41; refine (l9Num_any _ _).mono ?_; rintro e w' ⟨rfl, rfl⟩))
   go_ret
   exact ⟨by rw [HV.out]; rfl, (Below.refl _ _).alloc (Nat.le_refl _) _⟩
theorem specAcc_a_2 (nm : ByteArray) (at_ sz tu : Int) (w : World) (hs : nm.size ≤ maxLen) (hN : nameB nm = true) (hA : inB at_ 0 12799 = true) (hA0 : 0 ≤ at_) (hA9 : at_ ≤ 12799) :
 Calls Try.prog 20 #[accV nm 2 at_ sz tu (-1) 0] w fun e w' => e = .returned (.bool (accB nm 2 at_ sz tu (-1) 0)) ∧ Below w.heap.size w w' := by
 unfold accV
 by_cases hz : sz = 1 ∨ sz = 2 ∨ sz = 4 ∨ sz = 8
 · have HZ := Lib.hid hz
   have hz1 : 1 ≤ sz ∧ sz ≤ 8 := by omega
   obtain ⟨hz1, hz8⟩ := hz1
   have hS : sizeB sz = true := by simpa [sizeB] using hz
   clear hz
   have hz0 : (sz == 0) = false := by simp; omega
   by_cases hM : at_ % sz = 0
   · have hM2 : (at_ % sz == 0) = true := by simpa using hM
     cases hF : fitsB tu sz
     · have hX := True.intro
       have HV : Hid (accB nm 2 at_ sz tu (-1) 0 = false) := Lib.hid (by simp [accB, tagB, partsB, inB_m1, *])
       go_enter Try.func20, Try.ntmps20
       go_wp2_with (first | (go_at_call 33; refine (l1In_any _ _ _ _).mono ?_; rintro e w' ⟨rfl, rfl⟩) | (go_at_call 38; refine (l9Name_any _ _ hs).mono ?_; rintro e w' ⟨rfl, rfl⟩) | (go_at_call 39; refine (l12Apart_any _ _ _ _ (by omega) (by omega) (by omega)).mono ?_; rintro e w' ⟨rfl, rfl⟩) | (go_at_call 40; refine (l1Size_any _ _).mono ?_; rintro e w' ⟨rfl, rfl⟩) | (go_at_call 35; refine (l1Fits_any _ _ _ HZ.out).mono ?_; rintro e w' ⟨rfl, rfl⟩) | (go_at_call 41; refine (l9Num_any _ _).mono ?_; rintro e w' ⟨rfl, rfl⟩))
       go_ret
       exact ⟨by rw [HV.out]; rfl, (Below.refl _ _).alloc (Nat.le_refl _) _⟩
     · cases hU : numB tu
       · have hX := True.intro
         have HV : Hid (accB nm 2 at_ sz tu (-1) 0 = false) := Lib.hid (by simp [accB, tagB, partsB, inB_m1, *])
         go_enter Try.func20, Try.ntmps20
         go_wp2_with (first | (go_at_call 33; refine (l1In_any _ _ _ _).mono ?_; rintro e w' ⟨rfl, rfl⟩) | (go_at_call 38; refine (l9Name_any _ _ hs).mono ?_; rintro e w' ⟨rfl, rfl⟩) | (go_at_call 39; refine (l12Apart_any _ _ _ _ (by omega) (by omega) (by omega)).mono ?_; rintro e w' ⟨rfl, rfl⟩) | (go_at_call 40; refine (l1Size_any _ _).mono ?_; rintro e w' ⟨rfl, rfl⟩) | (go_at_call 35; refine (l1Fits_any _ _ _ HZ.out).mono ?_; rintro e w' ⟨rfl, rfl⟩) | (go_at_call 41; refine (l9Num_any _ _).mono ?_; rintro e w' ⟨rfl, rfl⟩))
         go_ret
         exact ⟨by rw [HV.out]; rfl, (Below.refl _ _).alloc (Nat.le_refl _) _⟩
       · cases hQ : apartB at_ sz (-1)
         · have hX := True.intro
           have HV : Hid (accB nm 2 at_ sz tu (-1) 0 = false) := Lib.hid (by simp [accB, tagB, partsB, inB_m1, *])
           go_enter Try.func20, Try.ntmps20
           go_wp2_with (first | (go_at_call 33; refine (l1In_any _ _ _ _).mono ?_; rintro e w' ⟨rfl, rfl⟩) | (go_at_call 38; refine (l9Name_any _ _ hs).mono ?_; rintro e w' ⟨rfl, rfl⟩) | (go_at_call 39; refine (l12Apart_any _ _ _ _ (by omega) (by omega) (by omega)).mono ?_; rintro e w' ⟨rfl, rfl⟩) | (go_at_call 40; refine (l1Size_any _ _).mono ?_; rintro e w' ⟨rfl, rfl⟩) | (go_at_call 35; refine (l1Fits_any _ _ _ HZ.out).mono ?_; rintro e w' ⟨rfl, rfl⟩) | (go_at_call 41; refine (l9Num_any _ _).mono ?_; rintro e w' ⟨rfl, rfl⟩))
           go_ret
           exact ⟨by rw [HV.out]; rfl, (Below.refl _ _).alloc (Nat.le_refl _) _⟩
         · have hX := True.intro
           have HV : Hid (accB nm 2 at_ sz tu (-1) 0 = true) := Lib.hid (by simp [accB, tagB, partsB, inB_m1, *])
           go_enter Try.func20, Try.ntmps20
           go_wp2_with (first | (go_at_call 33; refine (l1In_any _ _ _ _).mono ?_; rintro e w' ⟨rfl, rfl⟩) | (go_at_call 38; refine (l9Name_any _ _ hs).mono ?_; rintro e w' ⟨rfl, rfl⟩) | (go_at_call 39; refine (l12Apart_any _ _ _ _ (by omega) (by omega) (by omega)).mono ?_; rintro e w' ⟨rfl, rfl⟩) | (go_at_call 40; refine (l1Size_any _ _).mono ?_; rintro e w' ⟨rfl, rfl⟩) | (go_at_call 35; refine (l1Fits_any _ _ _ HZ.out).mono ?_; rintro e w' ⟨rfl, rfl⟩) | (go_at_call 41; refine (l9Num_any _ _).mono ?_; rintro e w' ⟨rfl, rfl⟩))
           go_ret
           exact ⟨by rw [HV.out]; rfl, (Below.refl _ _).alloc (Nat.le_refl _) _⟩
   · have hM2 : (at_ % sz == 0) = false := by simpa using hM
     have HV : Hid (accB nm 2 at_ sz tu (-1) 0 = false) := Lib.hid (by simp [accB, tagB, partsB, inB_m1, *])
     go_enter Try.func20, Try.ntmps20
     go_wp2_with (first | (go_at_call 33; refine (l1In_any _ _ _ _).mono ?_; rintro e w' ⟨rfl, rfl⟩) | (go_at_call 38; refine (l9Name_any _ _ hs).mono ?_; rintro e w' ⟨rfl, rfl⟩) | (go_at_call 39; refine (l12Apart_any _ _ _ _ (by omega) (by omega) (by omega)).mono ?_; rintro e w' ⟨rfl, rfl⟩) | (go_at_call 40; refine (l1Size_any _ _).mono ?_; rintro e w' ⟨rfl, rfl⟩) | (go_at_call 35; refine (l1Fits_any _ _ _ HZ.out).mono ?_; rintro e w' ⟨rfl, rfl⟩) | (go_at_call 41; refine (l9Num_any _ _).mono ?_; rintro e w' ⟨rfl, rfl⟩))
     go_ret
     exact ⟨by rw [HV.out]; rfl, (Below.refl _ _).alloc (Nat.le_refl _) _⟩
 · have hS : sizeB sz = false := by simpa [sizeB] using hz
   clear hz
   have HV : Hid (accB nm 2 at_ sz tu (-1) 0 = false) := Lib.hid (by simp [accB, tagB, partsB, inB_m1, *])
   go_enter Try.func20, Try.ntmps20
   go_wp2_with (first | (go_at_call 33; refine (l1In_any _ _ _ _).mono ?_; rintro e w' ⟨rfl, rfl⟩) | (go_at_call 38; refine (l9Name_any _ _ hs).mono ?_; rintro e w' ⟨rfl, rfl⟩) | (go_at_call 39; refine (l12Apart_any _ _ _ _ (by omega) (by omega) (by omega)).mono ?_; rintro e w' ⟨rfl, rfl⟩) | (go_at_call 40; refine (l1Size_any _ _).mono ?_; rintro e w' ⟨rfl, rfl⟩) | (go_at_call 35; refine (l1Fits_any _ _ _ HZ.out).mono ?_; rintro e w' ⟨rfl, rfl⟩) | (go_at_call 41; refine (l9Num_any _ _).mono ?_; rintro e w' ⟨rfl, rfl⟩))
   go_ret
   exact ⟨by rw [HV.out]; rfl, (Below.refl _ _).alloc (Nat.le_refl _) _⟩
theorem specAcc_b (nm : ByteArray) (at_ sz tu : Int) (w : World) (hs : nm.size ≤ maxLen) (pl : Int) (hp : (pl == 0) = false) (k : Int) :
 Calls Try.prog 20 #[accV nm k at_ sz tu (-1) pl] w fun e w' => e = .returned (.bool (accB nm k at_ sz tu (-1) pl)) ∧ Below w.heap.size w w' := by
 unfold accV
 have hb := inB_m1
 have hp2 : ¬ pl = 0 := by simpa using hp
 cases hN : nameB nm
 · have hX := True.intro
   have HV : Hid (accB nm k at_ sz tu (-1) pl = false) := Lib.hid (by simp [accB, tagB, partsB, inB_m1, *])
   go_enter Try.func20, Try.ntmps20
   go_wp2_with (first | (go_at_call 33; refine (l1In_any _ _ _ _).mono ?_; rintro e w' ⟨rfl, rfl⟩) | (go_at_call 38; refine (l9Name_any _ _ hs).mono ?_; rintro e w' ⟨rfl, rfl⟩) | (go_at_call 39; refine (l12Apart_any _ _ _ _ (by omega) (by omega) (by omega)).mono ?_; rintro e w' ⟨rfl, rfl⟩) | (go_at_call 40; refine (l1Size_any _ _).mono ?_; rintro e w' ⟨rfl, rfl⟩) | (go_at_call 35; refine (l1Fits_any _ _ _ HZ.out).mono ?_; rintro e w' ⟨rfl, rfl⟩) | (go_at_call 41; refine (l9Num_any _ _).mono ?_; rintro e w' ⟨rfl, rfl⟩))
   go_ret
   exact ⟨by rw [HV.out]; rfl, (Below.refl _ _).alloc (Nat.le_refl _) _⟩
 · have hX := True.intro
   have HV : Hid (accB nm k at_ sz tu (-1) pl = false) := Lib.hid (by simp [accB, tagB, partsB, inB_m1, *])
   go_enter Try.func20, Try.ntmps20
   go_wp2_with (first | (go_at_call 33; refine (l1In_any _ _ _ _).mono ?_; rintro e w' ⟨rfl, rfl⟩) | (go_at_call 38; refine (l9Name_any _ _ hs).mono ?_; rintro e w' ⟨rfl, rfl⟩) | (go_at_call 39; refine (l12Apart_any _ _ _ _ (by omega) (by omega) (by omega)).mono ?_; rintro e w' ⟨rfl, rfl⟩) | (go_at_call 40; refine (l1Size_any _ _).mono ?_; rintro e w' ⟨rfl, rfl⟩) | (go_at_call 35; refine (l1Fits_any _ _ _ HZ.out).mono ?_; rintro e w' ⟨rfl, rfl⟩) | (go_at_call 41; refine (l9Num_any _ _).mono ?_; rintro e w' ⟨rfl, rfl⟩))
   go_ret
   exact ⟨by rw [HV.out]; rfl, (Below.refl _ _).alloc (Nat.le_refl _) _⟩
theorem specAcc_c (nm : ByteArray) (at_ sz tu : Int) (w : World) (hs : nm.size ≤ maxLen) (tg pl : Int) (hn1 : (tg == -1) = false) (hi : inB tg 0 1598 = false) (k : Int) :
 Calls Try.prog 20 #[accV nm k at_ sz tu tg pl] w fun e w' => e = .returned (.bool (accB nm k at_ sz tu tg pl)) ∧ Below w.heap.size w w' := by
 unfold accV
 have hn2 : ¬ tg = -1 := by simpa using hn1
 cases hN : nameB nm
 · have hX := True.intro
   have HV : Hid (accB nm k at_ sz tu tg pl = false) := Lib.hid (by simp [accB, tagB, partsB, inB_m1, *])
   go_enter Try.func20, Try.ntmps20
   go_wp2_with (first | (go_at_call 33; refine (l1In_any _ _ _ _).mono ?_; rintro e w' ⟨rfl, rfl⟩) | (go_at_call 38; refine (l9Name_any _ _ hs).mono ?_; rintro e w' ⟨rfl, rfl⟩) | (go_at_call 39; refine (l12Apart_any _ _ _ _ (by omega) (by omega) (by omega)).mono ?_; rintro e w' ⟨rfl, rfl⟩) | (go_at_call 40; refine (l1Size_any _ _).mono ?_; rintro e w' ⟨rfl, rfl⟩) | (go_at_call 35; refine (l1Fits_any _ _ _ HZ.out).mono ?_; rintro e w' ⟨rfl, rfl⟩) | (go_at_call 41; refine (l9Num_any _ _).mono ?_; rintro e w' ⟨rfl, rfl⟩))
   go_ret
   exact ⟨by rw [HV.out]; rfl, (Below.refl _ _).alloc (Nat.le_refl _) _⟩
 · have hX := True.intro
   have HV : Hid (accB nm k at_ sz tu tg pl = false) := Lib.hid (by simp [accB, tagB, partsB, inB_m1, *])
   go_enter Try.func20, Try.ntmps20
   go_wp2_with (first | (go_at_call 33; refine (l1In_any _ _ _ _).mono ?_; rintro e w' ⟨rfl, rfl⟩) | (go_at_call 38; refine (l9Name_any _ _ hs).mono ?_; rintro e w' ⟨rfl, rfl⟩) | (go_at_call 39; refine (l12Apart_any _ _ _ _ (by omega) (by omega) (by omega)).mono ?_; rintro e w' ⟨rfl, rfl⟩) | (go_at_call 40; refine (l1Size_any _ _).mono ?_; rintro e w' ⟨rfl, rfl⟩) | (go_at_call 35; refine (l1Fits_any _ _ _ HZ.out).mono ?_; rintro e w' ⟨rfl, rfl⟩) | (go_at_call 41; refine (l9Num_any _ _).mono ?_; rintro e w' ⟨rfl, rfl⟩))
   go_ret
   exact ⟨by rw [HV.out]; rfl, (Below.refl _ _).alloc (Nat.le_refl _) _⟩
theorem specAcc_d (nm : ByteArray) (at_ sz tu : Int) (w : World) (hs : nm.size ≤ maxLen) (tg pl : Int) (hn1 : (tg == -1) = false) (hi : inB tg 0 1598 = true) (h0 : 0 ≤ tg) (h9 : tg ≤ 1598) (hm : (tg % 2 == 0) = false) (k : Int) :
 Calls Try.prog 20 #[accV nm k at_ sz tu tg pl] w fun e w' => e = .returned (.bool (accB nm k at_ sz tu tg pl)) ∧ Below w.heap.size w w' := by
 unfold accV
 have hn2 : ¬ tg = -1 := by simpa using hn1
 have hm2 : ¬ tg % 2 = 0 := by simpa using hm
 cases hN : nameB nm
 · have hX := True.intro
   have HV : Hid (accB nm k at_ sz tu tg pl = false) := Lib.hid (by simp [accB, tagB, partsB, inB_m1, *])
   go_enter Try.func20, Try.ntmps20
   go_wp2_with (first | (go_at_call 33; refine (l1In_any _ _ _ _).mono ?_; rintro e w' ⟨rfl, rfl⟩) | (go_at_call 38; refine (l9Name_any _ _ hs).mono ?_; rintro e w' ⟨rfl, rfl⟩) | (go_at_call 39; refine (l12Apart_any _ _ _ _ (by omega) (by omega) (by omega)).mono ?_; rintro e w' ⟨rfl, rfl⟩) | (go_at_call 40; refine (l1Size_any _ _).mono ?_; rintro e w' ⟨rfl, rfl⟩) | (go_at_call 35; refine (l1Fits_any _ _ _ HZ.out).mono ?_; rintro e w' ⟨rfl, rfl⟩) | (go_at_call 41; refine (l9Num_any _ _).mono ?_; rintro e w' ⟨rfl, rfl⟩))
   go_ret
   exact ⟨by rw [HV.out]; rfl, (Below.refl _ _).alloc (Nat.le_refl _) _⟩
 · have hX := True.intro
   have HV : Hid (accB nm k at_ sz tu tg pl = false) := Lib.hid (by simp [accB, tagB, partsB, inB_m1, *])
   go_enter Try.func20, Try.ntmps20
   go_wp2_with (first | (go_at_call 33; refine (l1In_any _ _ _ _).mono ?_; rintro e w' ⟨rfl, rfl⟩) | (go_at_call 38; refine (l9Name_any _ _ hs).mono ?_; rintro e w' ⟨rfl, rfl⟩) | (go_at_call 39; refine (l12Apart_any _ _ _ _ (by omega) (by omega) (by omega)).mono ?_; rintro e w' ⟨rfl, rfl⟩) | (go_at_call 40; refine (l1Size_any _ _).mono ?_; rintro e w' ⟨rfl, rfl⟩) | (go_at_call 35; refine (l1Fits_any _ _ _ HZ.out).mono ?_; rintro e w' ⟨rfl, rfl⟩) | (go_at_call 41; refine (l9Num_any _ _).mono ?_; rintro e w' ⟨rfl, rfl⟩))
   go_ret
   exact ⟨by rw [HV.out]; rfl, (Below.refl _ _).alloc (Nat.le_refl _) _⟩
theorem specAcc_f (nm : ByteArray) (at_ sz tu : Int) (w : World) (hs : nm.size ≤ maxLen) (tg pl : Int) (hn1 : (tg == -1) = false) (hi : inB tg 0 1598 = true) (h0 : 0 ≤ tg) (h9 : tg ≤ 1598) (hm : (tg % 2 == 0) = true) (hp : inB pl 0 65535 = false) (k : Int) :
 Calls Try.prog 20 #[accV nm k at_ sz tu tg pl] w fun e w' => e = .returned (.bool (accB nm k at_ sz tu tg pl)) ∧ Below w.heap.size w w' := by
 unfold accV
 have hn2 : ¬ tg = -1 := by simpa using hn1
 have hm2 : tg % 2 = 0 := by simpa using hm
 cases hN : nameB nm
 · have hX := True.intro
   have HV : Hid (accB nm k at_ sz tu tg pl = false) := Lib.hid (by simp [accB, tagB, partsB, inB_m1, *])
   go_enter Try.func20, Try.ntmps20
   go_wp2_with (first | (go_at_call 33; refine (l1In_any _ _ _ _).mono ?_; rintro e w' ⟨rfl, rfl⟩) | (go_at_call 38; refine (l9Name_any _ _ hs).mono ?_; rintro e w' ⟨rfl, rfl⟩) | (go_at_call 39; refine (l12Apart_any _ _ _ _ (by omega) (by omega) (by omega)).mono ?_; rintro e w' ⟨rfl, rfl⟩) | (go_at_call 40; refine (l1Size_any _ _).mono ?_; rintro e w' ⟨rfl, rfl⟩) | (go_at_call 35; refine (l1Fits_any _ _ _ HZ.out).mono ?_; rintro e w' ⟨rfl, rfl⟩) | (go_at_call 41; refine (l9Num_any _ _).mono ?_; rintro e w' ⟨rfl, rfl⟩))
   go_ret
   exact ⟨by rw [HV.out]; rfl, (Below.refl _ _).alloc (Nat.le_refl _) _⟩
 · have hX := True.intro
   have HV : Hid (accB nm k at_ sz tu tg pl = false) := Lib.hid (by simp [accB, tagB, partsB, inB_m1, *])
   go_enter Try.func20, Try.ntmps20
   go_wp2_with (first | (go_at_call 33; refine (l1In_any _ _ _ _).mono ?_; rintro e w' ⟨rfl, rfl⟩) | (go_at_call 38; refine (l9Name_any _ _ hs).mono ?_; rintro e w' ⟨rfl, rfl⟩) | (go_at_call 39; refine (l12Apart_any _ _ _ _ (by omega) (by omega) (by omega)).mono ?_; rintro e w' ⟨rfl, rfl⟩) | (go_at_call 40; refine (l1Size_any _ _).mono ?_; rintro e w' ⟨rfl, rfl⟩) | (go_at_call 35; refine (l1Fits_any _ _ _ HZ.out).mono ?_; rintro e w' ⟨rfl, rfl⟩) | (go_at_call 41; refine (l9Num_any _ _).mono ?_; rintro e w' ⟨rfl, rfl⟩))
   go_ret
   exact ⟨by rw [HV.out]; rfl, (Below.refl _ _).alloc (Nat.le_refl _) _⟩
theorem specAcc_e_n (nm : ByteArray) (at_ sz tu : Int) (w : World) (hs : nm.size ≤ maxLen) (tg pl : Int) (hn1 : (tg == -1) = false) (hi : inB tg 0 1598 = true) (h0 : 0 ≤ tg) (h9 : tg ≤ 1598) (hm : (tg % 2 == 0) = true) (hp : inB pl 0 65535 = true) (k : Int) (hN : nameB nm = false) :
 Calls Try.prog 20 #[accV nm k at_ sz tu tg pl] w fun e w' => e = .returned (.bool (accB nm k at_ sz tu tg pl)) ∧ Below w.heap.size w w' := by
 unfold accV
 have hn2 : ¬ tg = -1 := by simpa using hn1
 have hm2 : tg % 2 = 0 := by simpa using hm
 have HV : Hid (accB nm k at_ sz tu tg pl = false) := Lib.hid (by simp [accB, tagB, partsB, inB_m1, *])
 go_enter Try.func20, Try.ntmps20
 go_wp2_with (first | (go_at_call 33; refine (l1In_any _ _ _ _).mono ?_; rintro e w' ⟨rfl, rfl⟩) | (go_at_call 38; refine (l9Name_any _ _ hs).mono ?_; rintro e w' ⟨rfl, rfl⟩) | (go_at_call 39; refine (l12Apart_any _ _ _ _ (by omega) (by omega) (by omega)).mono ?_; rintro e w' ⟨rfl, rfl⟩) | (go_at_call 40; refine (l1Size_any _ _).mono ?_; rintro e w' ⟨rfl, rfl⟩) | (go_at_call 35; refine (l1Fits_any _ _ _ HZ.out).mono ?_; rintro e w' ⟨rfl, rfl⟩) | (go_at_call 41; refine (l9Num_any _ _).mono ?_; rintro e w' ⟨rfl, rfl⟩))
 go_ret
 exact ⟨by rw [HV.out]; rfl, (Below.refl _ _).alloc (Nat.le_refl _) _⟩
theorem specAcc_e_p (nm : ByteArray) (at_ sz tu : Int) (w : World) (hs : nm.size ≤ maxLen) (tg pl : Int) (hn1 : (tg == -1) = false) (hi : inB tg 0 1598 = true) (h0 : 0 ≤ tg) (h9 : tg ≤ 1598) (hm : (tg % 2 == 0) = true) (hp : inB pl 0 65535 = true) (k : Int) (hN : nameB nm = true) (hA : inB at_ 0 12799 = false) :
 Calls Try.prog 20 #[accV nm k at_ sz tu tg pl] w fun e w' => e = .returned (.bool (accB nm k at_ sz tu tg pl)) ∧ Below w.heap.size w w' := by
 unfold accV
 have hn2 : ¬ tg = -1 := by simpa using hn1
 have hm2 : tg % 2 = 0 := by simpa using hm
 have HV : Hid (accB nm k at_ sz tu tg pl = false) := Lib.hid (by simp [accB, tagB, partsB, inB_m1, *])
 go_enter Try.func20, Try.ntmps20
 go_wp2_with (first | (go_at_call 33; refine (l1In_any _ _ _ _).mono ?_; rintro e w' ⟨rfl, rfl⟩) | (go_at_call 38; refine (l9Name_any _ _ hs).mono ?_; rintro e w' ⟨rfl, rfl⟩) | (go_at_call 39; refine (l12Apart_any _ _ _ _ (by omega) (by omega) (by omega)).mono ?_; rintro e w' ⟨rfl, rfl⟩) | (go_at_call 40; refine (l1Size_any _ _).mono ?_; rintro e w' ⟨rfl, rfl⟩) | (go_at_call 35; refine (l1Fits_any _ _ _ HZ.out).mono ?_; rintro e w' ⟨rfl, rfl⟩) | (go_at_call 41; refine (l9Num_any _ _).mono ?_; rintro e w' ⟨rfl, rfl⟩))
 go_ret
 exact ⟨by rw [HV.out]; rfl, (Below.refl _ _).alloc (Nat.le_refl _) _⟩
theorem specAcc_e_0 (nm : ByteArray) (at_ sz tu : Int) (w : World) (hs : nm.size ≤ maxLen) (tg pl : Int) (hn1 : (tg == -1) = false) (hi : inB tg 0 1598 = true) (h0 : 0 ≤ tg) (h9 : tg ≤ 1598) (hm : (tg % 2 == 0) = true) (hp : inB pl 0 65535 = true) (k : Int) (k1 : (k == 1) = false) (k2 : (k == 2) = false) (k3 : (k == 3) = false) (hN : nameB nm = true) (hA : inB at_ 0 12799 = true) (hA0 : 0 ≤ at_) (hA9 : at_ ≤ 12799) :
 Calls Try.prog 20 #[accV nm k at_ sz tu tg pl] w fun e w' => e = .returned (.bool (accB nm k at_ sz tu tg pl)) ∧ Below w.heap.size w w' := by
 unfold accV
 have hn2 : ¬ tg = -1 := by simpa using hn1
 have hm2 : tg % 2 = 0 := by simpa using hm
 have k1n : ¬ k = 1 := by simpa using k1
 have k2n : ¬ k = 2 := by simpa using k2
 have k3n : ¬ k = 3 := by simpa using k3
 have HV : Hid (accB nm k at_ sz tu tg pl = false) := Lib.hid (by simp [accB, tagB, partsB, inB_m1, *])
 go_enter Try.func20, Try.ntmps20
 go_wp2_with (first | (go_at_call 33; refine (l1In_any _ _ _ _).mono ?_; rintro e w' ⟨rfl, rfl⟩) | (go_at_call 38; refine (l9Name_any _ _ hs).mono ?_; rintro e w' ⟨rfl, rfl⟩) | (go_at_call 39; refine (l12Apart_any _ _ _ _ (by omega) (by omega) (by omega)).mono ?_; rintro e w' ⟨rfl, rfl⟩) | (go_at_call 40; refine (l1Size_any _ _).mono ?_; rintro e w' ⟨rfl, rfl⟩) | (go_at_call 35; refine (l1Fits_any _ _ _ HZ.out).mono ?_; rintro e w' ⟨rfl, rfl⟩) | (go_at_call 41; refine (l9Num_any _ _).mono ?_; rintro e w' ⟨rfl, rfl⟩))
 go_ret
 exact ⟨by rw [HV.out]; rfl, (Below.refl _ _).alloc (Nat.le_refl _) _⟩
theorem specAcc_e_1 (nm : ByteArray) (at_ sz tu : Int) (w : World) (hs : nm.size ≤ maxLen) (tg pl : Int) (hn1 : (tg == -1) = false) (hi : inB tg 0 1598 = true) (h0 : 0 ≤ tg) (h9 : tg ≤ 1598) (hm : (tg % 2 == 0) = true) (hp : inB pl 0 65535 = true) (hN : nameB nm = true) (hA : inB at_ 0 12799 = true) (hA0 : 0 ≤ at_) (hA9 : at_ ≤ 12799) :
 Calls Try.prog 20 #[accV nm 1 at_ sz tu tg pl] w fun e w' => e = .returned (.bool (accB nm 1 at_ sz tu tg pl)) ∧ Below w.heap.size w w' := by
 unfold accV
 have hn2 : ¬ tg = -1 := by simpa using hn1
 have hm2 : tg % 2 = 0 := by simpa using hm
 by_cases hz : sz = 0
 · subst hz
   cases hT : inB tu 0 1
   · have hX := True.intro
     have HV : Hid (accB nm 1 at_ 0 tu tg pl = false) := Lib.hid (by simp [accB, tagB, partsB, inB_m1, *])
     go_enter Try.func20, Try.ntmps20
     go_wp2_with (first | (go_at_call 33; refine (l1In_any _ _ _ _).mono ?_; rintro e w' ⟨rfl, rfl⟩) | (go_at_call 38; refine (l9Name_any _ _ hs).mono ?_; rintro e w' ⟨rfl, rfl⟩) | (go_at_call 39; refine (l12Apart_any _ _ _ _ (by omega) (by omega) (by omega)).mono ?_; rintro e w' ⟨rfl, rfl⟩) | (go_at_call 40; refine (l1Size_any _ _).mono ?_; rintro e w' ⟨rfl, rfl⟩) | (go_at_call 35; refine (l1Fits_any _ _ _ HZ.out).mono ?_; rintro e w' ⟨rfl, rfl⟩) | (go_at_call 41; refine (l9Num_any _ _).mono ?_; rintro e w' ⟨rfl, rfl⟩))
     go_ret
     exact ⟨by rw [HV.out]; rfl, (Below.refl _ _).alloc (Nat.le_refl _) _⟩
   · cases hQ : apartB (at_ / 8) 1 tg
     · have hX := True.intro
       have HV : Hid (accB nm 1 at_ 0 tu tg pl = false) := Lib.hid (by simp [accB, tagB, partsB, inB_m1, *])
       go_enter Try.func20, Try.ntmps20
       go_wp2_with (first | (go_at_call 33; refine (l1In_any _ _ _ _).mono ?_; rintro e w' ⟨rfl, rfl⟩) | (go_at_call 38; refine (l9Name_any _ _ hs).mono ?_; rintro e w' ⟨rfl, rfl⟩) | (go_at_call 39; refine (l12Apart_any _ _ _ _ (by omega) (by omega) (by omega)).mono ?_; rintro e w' ⟨rfl, rfl⟩) | (go_at_call 40; refine (l1Size_any _ _).mono ?_; rintro e w' ⟨rfl, rfl⟩) | (go_at_call 35; refine (l1Fits_any _ _ _ HZ.out).mono ?_; rintro e w' ⟨rfl, rfl⟩) | (go_at_call 41; refine (l9Num_any _ _).mono ?_; rintro e w' ⟨rfl, rfl⟩))
       go_ret
       exact ⟨by rw [HV.out]; rfl, (Below.refl _ _).alloc (Nat.le_refl _) _⟩
     · have hX := True.intro
       have HV : Hid (accB nm 1 at_ 0 tu tg pl = true) := Lib.hid (by simp [accB, tagB, partsB, inB_m1, *])
       go_enter Try.func20, Try.ntmps20
       go_wp2_with (first | (go_at_call 33; refine (l1In_any _ _ _ _).mono ?_; rintro e w' ⟨rfl, rfl⟩) | (go_at_call 38; refine (l9Name_any _ _ hs).mono ?_; rintro e w' ⟨rfl, rfl⟩) | (go_at_call 39; refine (l12Apart_any _ _ _ _ (by omega) (by omega) (by omega)).mono ?_; rintro e w' ⟨rfl, rfl⟩) | (go_at_call 40; refine (l1Size_any _ _).mono ?_; rintro e w' ⟨rfl, rfl⟩) | (go_at_call 35; refine (l1Fits_any _ _ _ HZ.out).mono ?_; rintro e w' ⟨rfl, rfl⟩) | (go_at_call 41; refine (l9Num_any _ _).mono ?_; rintro e w' ⟨rfl, rfl⟩))
       go_ret
       exact ⟨by rw [HV.out]; rfl, (Below.refl _ _).alloc (Nat.le_refl _) _⟩
 · have hz2 : (sz == 0) = false := by simpa using hz
   have HZN := Lib.hid hz
   have HV : Hid (accB nm 1 at_ sz tu tg pl = false) := Lib.hid (by simp [accB, tagB, partsB, inB_m1, *])
   go_enter Try.func20, Try.ntmps20
   go_wp2_with (first | (go_at_call 33; refine (l1In_any _ _ _ _).mono ?_; rintro e w' ⟨rfl, rfl⟩) | (go_at_call 38; refine (l9Name_any _ _ hs).mono ?_; rintro e w' ⟨rfl, rfl⟩) | (go_at_call 39; refine (l12Apart_any _ _ _ _ (by omega) (by omega) (by omega)).mono ?_; rintro e w' ⟨rfl, rfl⟩) | (go_at_call 40; refine (l1Size_any _ _).mono ?_; rintro e w' ⟨rfl, rfl⟩) | (go_at_call 35; refine (l1Fits_any _ _ _ HZ.out).mono ?_; rintro e w' ⟨rfl, rfl⟩) | (go_at_call 41; refine (l9Num_any _ _).mono ?_; rintro e w' ⟨rfl, rfl⟩))
   go_ret
   exact ⟨by rw [HV.out]; rfl, (Below.refl _ _).alloc (Nat.le_refl _) _⟩
theorem specAcc_e_3 (nm : ByteArray) (at_ sz tu : Int) (w : World) (hs : nm.size ≤ maxLen) (tg pl : Int) (hn1 : (tg == -1) = false) (hi : inB tg 0 1598 = true) (h0 : 0 ≤ tg) (h9 : tg ≤ 1598) (hm : (tg % 2 == 0) = true) (hp : inB pl 0 65535 = true) (hN : nameB nm = true) (hA : inB at_ 0 12799 = true) (hA0 : 0 ≤ at_) (hA9 : at_ ≤ 12799) :
 Calls Try.prog 20 #[accV nm 3 at_ sz tu tg pl] w fun e w' => e = .returned (.bool (accB nm 3 at_ sz tu tg pl)) ∧ Below w.heap.size w w' := by
 unfold accV
 have hn2 : ¬ tg = -1 := by simpa using hn1
 have hm2 : tg % 2 = 0 := by simpa using hm
 by_cases hz : sz = 0
 · subst hz
   by_cases ht : tu = 0
   · subst ht
     have HV : Hid (accB nm 3 at_ 0 0 tg pl = true) := Lib.hid (by simp [accB, tagB, partsB, inB_m1, *])
     go_enter Try.func20, Try.ntmps20
     go_wp2_with (first | (go_at_call 33; refine (l1In_any _ _ _ _).mono ?_; rintro e w' ⟨rfl, rfl⟩) | (go_at_call 38; refine (l9Name_any _ _ hs).mono ?_; rintro e w' ⟨rfl, rfl⟩) | (go_at_call 39; refine (l12Apart_any _ _ _ _ (by omega) (by omega) (by omega)).mono ?_; rintro e w' ⟨rfl, rfl⟩) | (go_at_call 40; refine (l1Size_any _ _).mono ?_; rintro e w' ⟨rfl, rfl⟩) | (go_at_call 35; refine (l1Fits_any _ _ _ HZ.out).mono ?_; rintro e w' ⟨rfl, rfl⟩) | (go_at_call 41; refine (l9Num_any _ _).mono ?_; rintro e w' ⟨rfl, rfl⟩))
     go_ret
     exact ⟨by rw [HV.out]; rfl, (Below.refl _ _).alloc (Nat.le_refl _) _⟩
   · have ht2 : (tu == 0) = false := by simpa using ht
     have HV : Hid (accB nm 3 at_ 0 tu tg pl = false) := Lib.hid (by simp [accB, tagB, partsB, inB_m1, *])
     go_enter Try.func20, Try.ntmps20
     go_wp2_with (first | (go_at_call 33; refine (l1In_any _ _ _ _).mono ?_; rintro e w' ⟨rfl, rfl⟩) | (go_at_call 38; refine (l9Name_any _ _ hs).mono ?_; rintro e w' ⟨rfl, rfl⟩) | (go_at_call 39; refine (l12Apart_any _ _ _ _ (by omega) (by omega) (by omega)).mono ?_; rintro e w' ⟨rfl, rfl⟩) | (go_at_call 40; refine (l1Size_any _ _).mono ?_; rintro e w' ⟨rfl, rfl⟩) | (go_at_call 35; refine (l1Fits_any _ _ _ HZ.out).mono ?_; rintro e w' ⟨rfl, rfl⟩) | (go_at_call 41; refine (l9Num_any _ _).mono ?_; rintro e w' ⟨rfl, rfl⟩))
     go_ret
     exact ⟨by rw [HV.out]; rfl, (Below.refl _ _).alloc (Nat.le_refl _) _⟩
 · have hz2 : (sz == 0) = false := by simpa using hz
   have HV : Hid (accB nm 3 at_ sz tu tg pl = false) := Lib.hid (by simp [accB, tagB, partsB, inB_m1, *])
   go_enter Try.func20, Try.ntmps20
   go_wp2_with (first | (go_at_call 33; refine (l1In_any _ _ _ _).mono ?_; rintro e w' ⟨rfl, rfl⟩) | (go_at_call 38; refine (l9Name_any _ _ hs).mono ?_; rintro e w' ⟨rfl, rfl⟩) | (go_at_call 39; refine (l12Apart_any _ _ _ _ (by omega) (by omega) (by omega)).mono ?_; rintro e w' ⟨rfl, rfl⟩) | (go_at_call 40; refine (l1Size_any _ _).mono ?_; rintro e w' ⟨rfl, rfl⟩) | (go_at_call 35; refine (l1Fits_any _ _ _ HZ.out).mono ?_; rintro e w' ⟨rfl, rfl⟩) | (go_at_call 41; refine (l9Num_any _ _).mono ?_; rintro e w' ⟨rfl, rfl⟩))
   go_ret
   exact ⟨by rw [HV.out]; rfl, (Below.refl _ _).alloc (Nat.le_refl _) _⟩
theorem specAcc_e_2 (nm : ByteArray) (at_ sz tu : Int) (w : World) (hs : nm.size ≤ maxLen) (tg pl : Int) (hn1 : (tg == -1) = false) (hi : inB tg 0 1598 = true) (h0 : 0 ≤ tg) (h9 : tg ≤ 1598) (hm : (tg % 2 == 0) = true) (hp : inB pl 0 65535 = true) (hN : nameB nm = true) (hA : inB at_ 0 12799 = true) (hA0 : 0 ≤ at_) (hA9 : at_ ≤ 12799) :
 Calls Try.prog 20 #[accV nm 2 at_ sz tu tg pl] w fun e w' => e = .returned (.bool (accB nm 2 at_ sz tu tg pl)) ∧ Below w.heap.size w w' := by
 unfold accV
 have hn2 : ¬ tg = -1 := by simpa using hn1
 have hm2 : tg % 2 = 0 := by simpa using hm
 by_cases hz : sz = 1 ∨ sz = 2 ∨ sz = 4 ∨ sz = 8
 · have HZ := Lib.hid hz
   have hz1 : 1 ≤ sz ∧ sz ≤ 8 := by omega
   obtain ⟨hz1, hz8⟩ := hz1
   have hS : sizeB sz = true := by simpa [sizeB] using hz
   clear hz
   have hz0 : (sz == 0) = false := by simp; omega
   by_cases hM : at_ % sz = 0
   · have hM2 : (at_ % sz == 0) = true := by simpa using hM
     cases hF : fitsB tu sz
     · have hX := True.intro
       have HV : Hid (accB nm 2 at_ sz tu tg pl = false) := Lib.hid (by simp [accB, tagB, partsB, inB_m1, *])
       go_enter Try.func20, Try.ntmps20
       go_wp2_with (first | (go_at_call 33; refine (l1In_any _ _ _ _).mono ?_; rintro e w' ⟨rfl, rfl⟩) | (go_at_call 38; refine (l9Name_any _ _ hs).mono ?_; rintro e w' ⟨rfl, rfl⟩) | (go_at_call 39; refine (l12Apart_any _ _ _ _ (by omega) (by omega) (by omega)).mono ?_; rintro e w' ⟨rfl, rfl⟩) | (go_at_call 40; refine (l1Size_any _ _).mono ?_; rintro e w' ⟨rfl, rfl⟩) | (go_at_call 35; refine (l1Fits_any _ _ _ HZ.out).mono ?_; rintro e w' ⟨rfl, rfl⟩) | (go_at_call 41; refine (l9Num_any _ _).mono ?_; rintro e w' ⟨rfl, rfl⟩))
       go_ret
       exact ⟨by rw [HV.out]; rfl, (Below.refl _ _).alloc (Nat.le_refl _) _⟩
     · cases hU : numB tu
       · have hX := True.intro
         have HV : Hid (accB nm 2 at_ sz tu tg pl = false) := Lib.hid (by simp [accB, tagB, partsB, inB_m1, *])
         go_enter Try.func20, Try.ntmps20
         go_wp2_with (first | (go_at_call 33; refine (l1In_any _ _ _ _).mono ?_; rintro e w' ⟨rfl, rfl⟩) | (go_at_call 38; refine (l9Name_any _ _ hs).mono ?_; rintro e w' ⟨rfl, rfl⟩) | (go_at_call 39; refine (l12Apart_any _ _ _ _ (by omega) (by omega) (by omega)).mono ?_; rintro e w' ⟨rfl, rfl⟩) | (go_at_call 40; refine (l1Size_any _ _).mono ?_; rintro e w' ⟨rfl, rfl⟩) | (go_at_call 35; refine (l1Fits_any _ _ _ HZ.out).mono ?_; rintro e w' ⟨rfl, rfl⟩) | (go_at_call 41; refine (l9Num_any _ _).mono ?_; rintro e w' ⟨rfl, rfl⟩))
         go_ret
         exact ⟨by rw [HV.out]; rfl, (Below.refl _ _).alloc (Nat.le_refl _) _⟩
       · cases hQ : apartB at_ sz tg
         · have hX := True.intro
           have HV : Hid (accB nm 2 at_ sz tu tg pl = false) := Lib.hid (by simp [accB, tagB, partsB, inB_m1, *])
           go_enter Try.func20, Try.ntmps20
           go_wp2_with (first | (go_at_call 33; refine (l1In_any _ _ _ _).mono ?_; rintro e w' ⟨rfl, rfl⟩) | (go_at_call 38; refine (l9Name_any _ _ hs).mono ?_; rintro e w' ⟨rfl, rfl⟩) | (go_at_call 39; refine (l12Apart_any _ _ _ _ (by omega) (by omega) (by omega)).mono ?_; rintro e w' ⟨rfl, rfl⟩) | (go_at_call 40; refine (l1Size_any _ _).mono ?_; rintro e w' ⟨rfl, rfl⟩) | (go_at_call 35; refine (l1Fits_any _ _ _ HZ.out).mono ?_; rintro e w' ⟨rfl, rfl⟩) | (go_at_call 41; refine (l9Num_any _ _).mono ?_; rintro e w' ⟨rfl, rfl⟩))
           go_ret
           exact ⟨by rw [HV.out]; rfl, (Below.refl _ _).alloc (Nat.le_refl _) _⟩
         · have hX := True.intro
           have HV : Hid (accB nm 2 at_ sz tu tg pl = true) := Lib.hid (by simp [accB, tagB, partsB, inB_m1, *])
           go_enter Try.func20, Try.ntmps20
           go_wp2_with (first | (go_at_call 33; refine (l1In_any _ _ _ _).mono ?_; rintro e w' ⟨rfl, rfl⟩) | (go_at_call 38; refine (l9Name_any _ _ hs).mono ?_; rintro e w' ⟨rfl, rfl⟩) | (go_at_call 39; refine (l12Apart_any _ _ _ _ (by omega) (by omega) (by omega)).mono ?_; rintro e w' ⟨rfl, rfl⟩) | (go_at_call 40; refine (l1Size_any _ _).mono ?_; rintro e w' ⟨rfl, rfl⟩) | (go_at_call 35; refine (l1Fits_any _ _ _ HZ.out).mono ?_; rintro e w' ⟨rfl, rfl⟩) | (go_at_call 41; refine (l9Num_any _ _).mono ?_; rintro e w' ⟨rfl, rfl⟩))
           go_ret
           exact ⟨by rw [HV.out]; rfl, (Below.refl _ _).alloc (Nat.le_refl _) _⟩
   · have hM2 : (at_ % sz == 0) = false := by simpa using hM
     have HV : Hid (accB nm 2 at_ sz tu tg pl = false) := Lib.hid (by simp [accB, tagB, partsB, inB_m1, *])
     go_enter Try.func20, Try.ntmps20
     go_wp2_with (first | (go_at_call 33; refine (l1In_any _ _ _ _).mono ?_; rintro e w' ⟨rfl, rfl⟩) | (go_at_call 38; refine (l9Name_any _ _ hs).mono ?_; rintro e w' ⟨rfl, rfl⟩) | (go_at_call 39; refine (l12Apart_any _ _ _ _ (by omega) (by omega) (by omega)).mono ?_; rintro e w' ⟨rfl, rfl⟩) | (go_at_call 40; refine (l1Size_any _ _).mono ?_; rintro e w' ⟨rfl, rfl⟩) | (go_at_call 35; refine (l1Fits_any _ _ _ HZ.out).mono ?_; rintro e w' ⟨rfl, rfl⟩) | (go_at_call 41; refine (l9Num_any _ _).mono ?_; rintro e w' ⟨rfl, rfl⟩))
     go_ret
     exact ⟨by rw [HV.out]; rfl, (Below.refl _ _).alloc (Nat.le_refl _) _⟩
 · have hS : sizeB sz = false := by simpa [sizeB] using hz
   clear hz
   have HV : Hid (accB nm 2 at_ sz tu tg pl = false) := Lib.hid (by simp [accB, tagB, partsB, inB_m1, *])
   go_enter Try.func20, Try.ntmps20
   go_wp2_with (first | (go_at_call 33; refine (l1In_any _ _ _ _).mono ?_; rintro e w' ⟨rfl, rfl⟩) | (go_at_call 38; refine (l9Name_any _ _ hs).mono ?_; rintro e w' ⟨rfl, rfl⟩) | (go_at_call 39; refine (l12Apart_any _ _ _ _ (by omega) (by omega) (by omega)).mono ?_; rintro e w' ⟨rfl, rfl⟩) | (go_at_call 40; refine (l1Size_any _ _).mono ?_; rintro e w' ⟨rfl, rfl⟩) | (go_at_call 35; refine (l1Fits_any _ _ _ HZ.out).mono ?_; rintro e w' ⟨rfl, rfl⟩) | (go_at_call 41; refine (l9Num_any _ _).mono ?_; rintro e w' ⟨rfl, rfl⟩))
   go_ret
   exact ⟨by rw [HV.out]; rfl, (Below.refl _ _).alloc (Nat.le_refl _) _⟩
theorem specAccessOk_any (nm : ByteArray) (k at_ sz tu tg pl : Int) (w : World) (hs : nm.size ≤ maxLen) :
 Calls Try.prog 20 #[accV nm k at_ sz tu tg pl] w fun e w' => e = .returned (.bool (accB nm k at_ sz tu tg pl)) ∧ Below w.heap.size w w' := by
 have main : ∀ (go_n : nameB nm = false → Calls Try.prog 20 #[accV nm k at_ sz tu tg pl] w fun e w' => e = .returned (.bool (accB nm k at_ sz tu tg pl)) ∧ Below w.heap.size w w')
  (go_p : nameB nm = true → inB at_ 0 12799 = false → Calls Try.prog 20 #[accV nm k at_ sz tu tg pl] w fun e w' => e = .returned (.bool (accB nm k at_ sz tu tg pl)) ∧ Below w.heap.size w w')
  (go_k : nameB nm = true → inB at_ 0 12799 = true → 0 ≤ at_ → at_ ≤ 12799 → Calls Try.prog 20 #[accV nm k at_ sz tu tg pl] w fun e w' => e = .returned (.bool (accB nm k at_ sz tu tg pl)) ∧ Below w.heap.size w w'),
  Calls Try.prog 20 #[accV nm k at_ sz tu tg pl] w fun e w' => e = .returned (.bool (accB nm k at_ sz tu tg pl)) ∧ Below w.heap.size w w' := by
  intro go_n go_p go_k
  cases hN : nameB nm
  · exact go_n hN
  · cases hA : inB at_ 0 12799
    · exact go_p hN hA
    · have : 0 ≤ at_ ∧ at_ ≤ 12799 := by simpa [inB] using hA
      exact go_k hN hA this.1 this.2
 have kk : ∀ j : Int, ¬ k = j → (k == j) = false := fun j h => by simpa using h
 by_cases h1 : tg = -1
 · subst h1
   by_cases h2 : pl = 0
   · subst h2
     refine main (fun hN => specAcc_a_n _ _ _ _ _ hs k hN) (fun hN hA => specAcc_a_p _ _ _ _ _ hs k hN hA) (fun hN hA a0 a9 => ?_)
     by_cases k1 : k = 1
     · subst k1; exact specAcc_a_1 _ _ _ _ _ hs hN hA a0 a9
     by_cases k2 : k = 2
     · subst k2; exact specAcc_a_2 _ _ _ _ _ hs hN hA a0 a9
     by_cases k3 : k = 3
     · subst k3; exact specAcc_a_3 _ _ _ _ _ hs hN hA a0 a9
     exact specAcc_a_0 _ _ _ _ _ hs k (kk _ k1) (kk _ k2) (kk _ k3) hN hA a0 a9
   · exact specAcc_b _ _ _ _ _ hs pl (by simpa using h2) k
 · have hn1 : (tg == -1) = false := by simpa using h1
   cases hi : inB tg 0 1598
   · exact specAcc_c _ _ _ _ _ hs tg pl hn1 hi k
   · have hb : 0 ≤ tg ∧ tg ≤ 1598 := by simpa [inB] using hi
     obtain ⟨t0, t9⟩ := hb
     by_cases hm : tg % 2 = 0
     · have hm2 : (tg % 2 == 0) = true := by simpa using hm
       cases hp : inB pl 0 65535
       · exact specAcc_f _ _ _ _ _ hs tg pl hn1 hi t0 t9 hm2 hp k
       · refine main (fun hN => specAcc_e_n _ _ _ _ _ hs tg pl hn1 hi t0 t9 hm2 hp k hN) (fun hN hA => specAcc_e_p _ _ _ _ _ hs tg pl hn1 hi t0 t9 hm2 hp k hN hA) (fun hN hA a0 a9 => ?_)
         by_cases k1 : k = 1
         · subst k1; exact specAcc_e_1 _ _ _ _ _ hs tg pl hn1 hi t0 t9 hm2 hp hN hA a0 a9
         by_cases k2 : k = 2
         · subst k2; exact specAcc_e_2 _ _ _ _ _ hs tg pl hn1 hi t0 t9 hm2 hp hN hA a0 a9
         by_cases k3 : k = 3
         · subst k3; exact specAcc_e_3 _ _ _ _ _ hs tg pl hn1 hi t0 t9 hm2 hp hN hA a0 a9
         exact specAcc_e_0 _ _ _ _ _ hs tg pl hn1 hi t0 t9 hm2 hp k (kk _ k1) (kk _ k2) (kk _ k3) hN hA a0 a9
     · exact specAcc_d _ _ _ _ _ hs tg pl hn1 hi t0 t9 (by simpa using hm) k
end Go.Proofs.Ytfnecflkahmjoaa
