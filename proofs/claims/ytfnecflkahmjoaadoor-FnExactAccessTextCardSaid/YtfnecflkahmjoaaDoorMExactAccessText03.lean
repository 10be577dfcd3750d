/- Texts of the proof of the law FnExactAccessText, side by side: part 3. -/
import Derived.Test.YtfnecflkahmjoaaDoorMExactAccessText02
set_option maxHeartbeats 8000000
set_option maxRecDepth 100000
namespace Go.Proofs.YtfnecflkahmjoaaDoor
open Go.RowKit
theorem inB_m1 : inB (-1) 0 1598 = false := by decide
theorem specAcc_a_n (nm : ByteArray) (at_ sz tu : Int) (w : World) (hs : nm.size ≤ maxLen) (k : Int) (hN : nameB nm = false) :
 Calls Tryd.prog 8 #[accV nm k at_ sz tu (-1) 0] w fun e w' => e = .returned (.bool (accB nm k at_ sz tu (-1) 0)) ∧ Below w.heap.size w w' := by
 unfold accV
 have HV : Hid (accB nm k at_ sz tu (-1) 0 = false) := Lib.hid (by simp [accB, tagB, partsB, inB_m1, *])
 go_enter Tryd.func8, Tryd.ntmps8
 go_wp2_with (first | (go_at_call 15; refine (l1In_any _ _ _ _).mono ?_; rintro e w' ⟨rfl, rfl⟩) | (go_at_call 16; refine (l9Name_any _ _ hs).mono ?_; rintro e w' ⟨rfl, rfl⟩) | (go_at_call 17; refine (l12Apart_any _ _ _ _ (by omega) (by omega) (by omega)).mono ?_; rintro e w' ⟨rfl, rfl⟩) | (go_at_call 18; refine (l1Size_any _ _).mono ?_; rintro e w' ⟨rfl, rfl⟩) | (go_at_call 19; refine (l1Fits_any _ _ _ HZ.out).mono ?_; rintro e w' ⟨rfl, rfl⟩) | (go_at_call 20; refine (l9Num_any _ _).mono ?_; rintro e w' ⟨rfl, rfl⟩))
 go_ret
 exact ⟨by rw [HV.out]; rfl, (Below.refl _ _).alloc (Nat.le_refl _) _⟩
theorem specAcc_a_p (nm : ByteArray) (at_ sz tu : Int) (w : World) (hs : nm.size ≤ maxLen) (k : Int) (hN : nameB nm = true) (hA : inB at_ 0 12799 = false) :
 Calls Tryd.prog 8 #[accV nm k at_ sz tu (-1) 0] w fun e w' => e = .returned (.bool (accB nm k at_ sz tu (-1) 0)) ∧ Below w.heap.size w w' := by
 unfold accV
 have HV : Hid (accB nm k at_ sz tu (-1) 0 = false) := Lib.hid (by simp [accB, tagB, partsB, inB_m1, *])
 go_enter Tryd.func8, Tryd.ntmps8
 go_wp2_with (first | (go_at_call 15; refine (l1In_any _ _ _ _).mono ?_; rintro e w' ⟨rfl, rfl⟩) | (go_at_call 16; refine (l9Name_any _ _ hs).mono ?_; rintro e w' ⟨rfl, rfl⟩) | (go_at_call 17; refine (l12Apart_any _ _ _ _ (by omega) (by omega) (by omega)).mono ?_; rintro e w' ⟨rfl, rfl⟩) | (go_at_call 18; refine (l1Size_any _ _).mono ?_; rintro e w' ⟨rfl, rfl⟩) | (go_at_call 19; refine (l1Fits_any _ _ _ HZ.out).mono ?_; rintro e w' ⟨rfl, rfl⟩) | (go_at_call 20; refine (l9Num_any _ _).mono ?_; rintro e w' ⟨rfl, rfl⟩))
 go_ret
 exact ⟨by rw [HV.out]; rfl, (Below.refl _ _).alloc (Nat.le_refl _) _⟩
theorem specAcc_a_0 (nm : ByteArray) (at_ sz tu : Int) (w : World) (hs : nm.size ≤ maxLen) (k : Int) (k1 : (k == 1) = false) (k2 : (k == 2) = false) (k3 : (k == 3) = false) (hN : nameB nm = true) (hA : inB at_ 0 12799 = true) (hA0 : 0 ≤ at_) (hA9 : at_ ≤ 12799) :
 Calls Tryd.prog 8 #[accV nm k at_ sz tu (-1) 0] w fun e w' => e = .returned (.bool (accB nm k at_ sz tu (-1) 0)) ∧ Below w.heap.size w w' := by
 unfold accV
 have k1n : ¬ k = 1 := by simpa using k1
 have k2n : ¬ k = 2 := by simpa using k2
 have k3n : ¬ k = 3 := by simpa using k3
 have HV : Hid (accB nm k at_ sz tu (-1) 0 = false) := Lib.hid (by simp [accB, tagB, partsB, inB_m1, *])
 go_enter Tryd.func8, Tryd.ntmps8
 go_wp2_with (first | (go_at_call 15; refine (l1In_any _ _ _ _).mono ?_; rintro e w' ⟨rfl, rfl⟩) | (go_at_call 16; refine (l9Name_any _ _ hs).mono ?_; rintro e w' ⟨rfl, rfl⟩) | (go_at_call 17; refine (l12Apart_any _ _ _ _ (by omega) (by omega) (by omega)).mono ?_; rintro e w' ⟨rfl, rfl⟩) | (go_at_call 18; refine (l1Size_any _ _).mono ?_; rintro e w' ⟨rfl, rfl⟩) | (go_at_call 19; refine (l1Fits_any _ _ _ HZ.out).mono ?_; rintro e w' ⟨rfl, rfl⟩) | (go_at_call 20; refine (l9Num_any _ _).mono ?_; rintro e w' ⟨rfl, rfl⟩))
 go_ret
 exact ⟨by rw [HV.out]; rfl, (Below.refl _ _).alloc (Nat.le_refl _) _⟩
theorem specAcc_a_1 (nm : ByteArray) (at_ sz tu : Int) (w : World) (hs : nm.size ≤ maxLen) (hN : nameB nm = true) (hA : inB at_ 0 12799 = true) (hA0 : 0 ≤ at_) (hA9 : at_ ≤ 12799) :
 Calls Tryd.prog 8 #[accV nm 1 at_ sz tu (-1) 0] w fun e w' => e = .returned (.bool (accB nm 1 at_ sz tu (-1) 0)) ∧ Below w.heap.size w w' := by
 unfold accV
 by_cases hz : sz = 0
 · subst hz
   cases hT : inB tu 0 1
   · have hX := True.intro
     have HV : Hid (accB nm 1 at_ 0 tu (-1) 0 = false) := Lib.hid (by simp [accB, tagB, partsB, inB_m1, *])
     go_enter Tryd.func8, Tryd.ntmps8
     go_wp2_with (first | (go_at_call 15; refine (l1In_any _ _ _ _).mono ?_; rintro e w' ⟨rfl, rfl⟩) | (go_at_call 16; refine (l9Name_any _ _ hs).mono ?_; rintro e w' ⟨rfl, rfl⟩) | (go_at_call 17; refine (l12Apart_any _ _ _ _ (by omega) (by omega) (by omega)).mono ?_; rintro e w' ⟨rfl, rfl⟩) | (go_at_call 18; refine (l1Size_any _ _).mono ?_; rintro e w' ⟨rfl, rfl⟩) | (go_at_call 19; refine (l1Fits_any _ _ _ HZ.out).mono ?_; rintro e w' ⟨rfl, rfl⟩) | (go_at_call 20; refine (l9Num_any _ _).mono ?_; rintro e w' ⟨rfl, rfl⟩))
     go_ret
     exact ⟨by rw [HV.out]; rfl, (Below.refl _ _).alloc (Nat.le_refl _) _⟩
   · cases hQ : apartB (at_ / 8) 1 (-1)
     · have hX := True.intro
       have HV : Hid (accB nm 1 at_ 0 tu (-1) 0 = false) := Lib.hid (by simp [accB, tagB, partsB, inB_m1, *])
       go_enter Tryd.func8, Tryd.ntmps8
       go_wp2_with (first | (go_at_call 15; refine (l1In_any _ _ _ _).mono ?_; rintro e w' ⟨rfl, rfl⟩) | (go_at_call 16; refine (l9Name_any _ _ hs).mono ?_; rintro e w' ⟨rfl, rfl⟩) | (go_at_call 17; refine (l12Apart_any _ _ _ _ (by omega) (by omega) (by omega)).mono ?_; rintro e w' ⟨rfl, rfl⟩) | (go_at_call 18; refine (l1Size_any _ _).mono ?_; rintro e w' ⟨rfl, rfl⟩) | (go_at_call 19; refine (l1Fits_any _ _ _ HZ.out).mono ?_; rintro e w' ⟨rfl, rfl⟩) | (go_at_call 20; refine (l9Num_any _ _).mono ?_; rintro e w' ⟨rfl, rfl⟩))
       go_ret
       exact ⟨by rw [HV.out]; rfl, (Below.refl _ _).alloc (Nat.le_refl _) _⟩
     · have hX := True.intro
       have HV : Hid (accB nm 1 at_ 0 tu (-1) 0 = true) := Lib.hid (by simp [accB, tagB, partsB, inB_m1, *])
       go_enter Tryd.func8, Tryd.ntmps8
       go_wp2_with (first | (go_at_call 15; refine (l1In_any _ _ _ _).mono ?_; rintro e w' ⟨rfl, rfl⟩) | (go_at_call 16; refine (l9Name_any _ _ hs).mono ?_; rintro e w' ⟨rfl, rfl⟩) | (go_at_call 17; refine (l12Apart_any _ _ _ _ (by omega) (by omega) (by omega)).mono ?_; rintro e w' ⟨rfl, rfl⟩) | (go_at_call 18; refine (l1Size_any _ _).mono ?_; rintro e w' ⟨rfl, rfl⟩) | (go_at_call 19; refine (l1Fits_any _ _ _ HZ.out).mono ?_; rintro e w' ⟨rfl, rfl⟩) | (go_at_call 20; refine (l9Num_any _ _).mono ?_; rintro e w' ⟨rfl, rfl⟩))
       go_ret
       exact ⟨by rw [HV.out]; rfl, (Below.refl _ _).alloc (Nat.le_refl _) _⟩
 · have hz2 : (sz == 0) = false := by simpa using hz
   have HZN := Lib.hid hz
   have HV : Hid (accB nm 1 at_ sz tu (-1) 0 = false) := Lib.hid (by simp [accB, tagB, partsB, inB_m1, *])
   go_enter Tryd.func8, Tryd.ntmps8
   go_wp2_with (first | (go_at_call 15; refine (l1In_any _ _ _ _).mono ?_; rintro e w' ⟨rfl, rfl⟩) | (go_at_call 16; refine (l9Name_any _ _ hs).mono ?_; rintro e w' ⟨rfl, rfl⟩) | (go_at_call 17; refine (l12Apart_any _ _ _ _ (by omega) (by omega) (by omega)).mono ?_; rintro e w' ⟨rfl, rfl⟩) | (go_at_call 18; refine (l1Size_any _ _).mono ?_; rintro e w' ⟨rfl, rfl⟩) | (go_at_call 19; refine (l1Fits_any _ _ _ HZ.out).mono ?_; rintro e w' ⟨rfl, rfl⟩) | (go_at_call 20; refine (l9Num_any _ _).mono ?_; rintro e w' ⟨rfl, rfl⟩))
   go_ret
   exact ⟨by rw [HV.out]; rfl, (Below.refl _ _).alloc (Nat.le_refl _) _⟩
theorem specAcc_a_3 (nm : ByteArray) (at_ sz tu : Int) (w : World) (hs : nm.size ≤ maxLen) (hN : nameB nm = true) (hA : inB at_ 0 12799 = true) (hA0 : 0 ≤ at_) (hA9 : at_ ≤ 12799) :
 Calls Tryd.prog 8 #[accV nm 3 at_ sz tu (-1) 0] w fun e w' => e = .returned (.bool (accB nm 3 at_ sz tu (-1) 0)) ∧ Below w.heap.size w w' := by
 unfold accV
 by_cases hz : sz = 0
 · subst hz
   by_cases ht : tu = 0
   · subst ht
     have HV : Hid (accB nm 3 at_ 0 0 (-1) 0 = true) := Lib.hid (by simp [accB, tagB, partsB, inB_m1, *])
     go_enter Tryd.func8, Tryd.ntmps8
     go_wp2_with (first | (go_at_call 15; refine (l1In_any _ _ _ _).mono ?_; rintro e w' ⟨rfl, rfl⟩) | (go_at_call 16; refine (l9Name_any _ _ hs).mono ?_; rintro e w' ⟨rfl, rfl⟩) | (go_at_call 17; refine (l12Apart_any _ _ _ _ (by omega) (by omega) (by omega)).mono ?_; rintro e w' ⟨rfl, rfl⟩) | (go_at_call 18; refine (l1Size_any _ _).mono ?_; rintro e w' ⟨rfl, rfl⟩) | (go_at_call 19; refine (l1Fits_any _ _ _ HZ.out).mono ?_; rintro e w' ⟨rfl, rfl⟩) | (go_at_call 20; refine (l9Num_any _ _).mono ?_; rintro e w' ⟨rfl, rfl⟩))
     go_ret
     exact ⟨by rw [HV.out]; rfl, (Below.refl _ _).alloc (Nat.le_refl _) _⟩
   · have ht2 : (tu == 0) = false := by simpa using ht
     have HV : Hid (accB nm 3 at_ 0 tu (-1) 0 = false) := Lib.hid (by simp [accB, tagB, partsB, inB_m1, *])
     go_enter Tryd.func8, Tryd.ntmps8
     go_wp2_with (first | (go_at_call 15; refine (l1In_any _ _ _ _).mono ?_; rintro e w' ⟨rfl, rfl⟩) | (go_at_call 16; refine (l9Name_any _ _ hs).mono ?_; rintro e w' ⟨rfl, rfl⟩) | (go_at_call 17; refine (l12Apart_any _ _ _ _ (by omega) (by omega) (by omega)).mono ?_; rintro e w' ⟨rfl, rfl⟩) | (go_at_call 18; refine (l1Size_any _ _).mono ?_; rintro e w' ⟨rfl, rfl⟩) | (go_at_call 19; refine (l1Fits_any _ _ _ HZ.out).mono ?_; rintro e w' ⟨rfl, rfl⟩) | (go_at_call 20; refine (l9Num_any _ _).mono ?_; rintro e w' ⟨rfl, rfl⟩))
     go_ret
     exact ⟨by rw [HV.out]; rfl, (Below.refl _ _).alloc (Nat.le_refl _) _⟩
 · have hz2 : (sz == 0) = false := by simpa using hz
   have HV : Hid (accB nm 3 at_ sz tu (-1) 0 = false) := Lib.hid (by simp [accB, tagB, partsB, inB_m1, *])
   go_enter Tryd.func8, Tryd.ntmps8
   go_wp2_with (first | (go_at_call 15; refine (l1In_any _ _ _ _).mono ?_; rintro e w' ⟨rfl, rfl⟩) | (go_at_call 16; refine (l9Name_any _ _ hs).mono ?_; rintro e w' ⟨rfl, rfl⟩) | (go_at_call 17; refine (l12Apart_any _ _ _ _ (by omega) (by omega) (by omega)).mono ?_; rintro e w' ⟨rfl, rfl⟩) | (go_at_call 18; refine (l1Size_any _ _).mono ?_; rintro e w' ⟨rfl, rfl⟩) | (go_at_call 19; refine (l1Fits_any _ _ _ HZ.out).mono ?_; rintro e w' ⟨rfl, rfl⟩) | (go_at_call 20; refine (l9Num_any _ _).mono ?_; rintro e w' ⟨rfl, rfl⟩))
   go_ret
   exact ⟨by rw [HV.out]; rfl, (Below.refl _ _).alloc (Nat.le_refl _) _⟩
theorem specAcc_a_2 (nm : ByteArray) (at_ sz tu : Int) (w : World) (hs : nm.size ≤ maxLen) (hN : nameB nm = true) (hA : inB at_ 0 12799 = true) (hA0 : 0 ≤ at_) (hA9 : at_ ≤ 12799) :
 Calls Tryd.prog 8 #[accV nm 2 at_ sz tu (-1) 0] w fun e w' => e = .returned (.bool (accB nm 2 at_ sz tu (-1) 0)) ∧ Below w.heap.size w w' := by
 unfold accV
 by_cases hz : sz = 1 ∨ sz = 2 ∨ sz = 4 ∨ sz = 8
 · have HZ := Lib.hid hz
   have hz1 : 1 ≤ sz ∧ sz ≤ 8 := by omega
   obtain ⟨hz1, hz8⟩ := hz1
   have hS : sizeB sz = true := by simpa [sizeB] using hz
   clear hz
   have hz0 : (sz == 0) = false := by simp; omega
   by_cases hM : at_ % sz = 0
   · have hM2 : (at_ % sz == 0) = true := by simpa using hM
     cases hF : fitsB tu sz
     · have hX := True.intro
       have HV : Hid (accB nm 2 at_ sz tu (-1) 0 = false) := Lib.hid (by simp [accB, tagB, partsB, inB_m1, *])
       go_enter Tryd.func8, Tryd.ntmps8
       go_wp2_with (first | (go_at_call 15; refine (l1In_any _ _ _ _).mono ?_; rintro e w' ⟨rfl, rfl⟩) | (go_at_call 16; refine (l9Name_any _ _ hs).mono ?_; rintro e w' ⟨rfl, rfl⟩) | (go_at_call 17; refine (l12Apart_any _ _ _ _ (by omega) (by omega) (by omega)).mono ?_; rintro e w' ⟨rfl, rfl⟩) | (go_at_call 18; refine (l1Size_any _ _).mono ?_; rintro e w' ⟨rfl, rfl⟩) | (go_at_call 19; refine (l1Fits_any _ _ _ HZ.out).mono ?_; rintro e w' ⟨rfl, rfl⟩) | (go_at_call 20; refine (l9Num_any _ _).mono ?_; rintro e w' ⟨rfl, rfl⟩))
       go_ret
       exact ⟨by rw [HV.out]; rfl, (Below.refl _ _).alloc (Nat.le_refl _) _⟩
     · cases hU : numB tu
       · have hX := True.intro
         have HV : Hid (accB nm 2 at_ sz tu (-1) 0 = false) := Lib.hid (by simp [accB, tagB, partsB, inB_m1, *])
         go_enter Tryd.func8, Tryd.ntmps8
         go_wp2_with (first | (go_at_call 15; refine (l1In_any _ _ _ _).mono ?_; rintro e w' ⟨rfl, rfl⟩) | (go_at_call 16; refine (l9Name_any _ _ hs).mono ?_; rintro e w' ⟨rfl, rfl⟩) | (go_at_call 17; refine (l12Apart_any _ _ _ _ (by omega) (by omega) (by omega)).mono ?_; rintro e w' ⟨rfl, rfl⟩) | (go_at_call 18; refine (l1Size_any _ _).mono ?_; rintro e w' ⟨rfl, rfl⟩) | (go_at_call 19; refine (l1Fits_any _ _ _ HZ.out).mono ?_; rintro e w' ⟨rfl, rfl⟩) | (go_at_call 20; refine (l9Num_any _ _).mono ?_; rintro e w' ⟨rfl, rfl⟩))
         go_ret
         exact ⟨by rw [HV.out]; rfl, (Below.refl _ _).alloc (Nat.le_refl _) _⟩
       · cases hQ : apartB at_ sz (-1)
         · have hX := True.intro
           have HV : Hid (accB nm 2 at_ sz tu (-1) 0 = false) := Lib.hid (by simp [accB, tagB, partsB, inB_m1, *])
           go_enter Tryd.func8, Tryd.ntmps8
           go_wp2_with (first | (go_at_call 15; refine (l1In_any _ _ _ _).mono ?_; rintro e w' ⟨rfl, rfl⟩) | (go_at_call 16; refine (l9Name_any _ _ hs).mono ?_; rintro e w' ⟨rfl, rfl⟩) | (go_at_call 17; refine (l12Apart_any _ _ _ _ (by omega) (by omega) (by omega)).mono ?_; rintro e w' ⟨rfl, rfl⟩) | (go_at_call 18; refine (l1Size_any _ _).mono ?_; rintro e w' ⟨rfl, rfl⟩) | (go_at_call 19; refine (l1Fits_any _ _ _ HZ.out).mono ?_; rintro e w' ⟨rfl, rfl⟩) | (go_at_call 20; refine (l9Num_any _ _).mono ?_; rintro e w' ⟨rfl, rfl⟩))
           go_ret
           exact ⟨by rw [HV.out]; rfl, (Below.refl _ _).alloc (Nat.le_refl _) _⟩
         · have hX := True.intro
           have HV : Hid (accB nm 2 at_ sz tu (-1) 0 = true) := Lib.hid (by simp [accB, tagB, partsB, inB_m1, *])
           go_enter Tryd.func8, Tryd.ntmps8
           go_wp2_with (first | (go_at_call 15; refine (l1In_any _ _ _ _).mono ?_; rintro e w' ⟨rfl, rfl⟩) | (go_at_call 16; refine (l9Name_any _ _ hs).mono ?_; rintro e w' ⟨rfl, rfl⟩) | (go_at_call 17; refine (l12Apart_any _ _ _ _ (by omega) (by omega) (by omega)).mono ?_; rintro e w' ⟨rfl, rfl⟩) | (go_at_call 18; refine (l1Size_any _ _).mono ?_; rintro e w' ⟨rfl, rfl⟩) | (go_at_call 19; refine (l1Fits_any _ _ _ HZ.out).mono ?_; rintro e w' ⟨rfl, rfl⟩) | (go_at_call 20; refine (l9Num_any _ _).mono ?_; rintro e w' ⟨rfl, rfl⟩))
           go_ret
           exact ⟨by rw [HV.out]; rfl, (Below.refl _ _).alloc (Nat.le_refl _) _⟩
   · have hM2 : (at_ % sz == 0) = false := by simpa using hM
     have HV : Hid (accB nm 2 at_ sz tu (-1) 0 = false) := Lib.hid (by simp [accB, tagB, partsB, inB_m1, *])
     go_enter Tryd.func8, Tryd.ntmps8
     go_wp2_with (first | (go_at_call 15; refine (l1In_any _ _ _ _).mono ?_; rintro e w' ⟨rfl, rfl⟩) | (go_at_call 16; refine (l9Name_any _ _ hs).mono ?_; rintro e w' ⟨rfl, rfl⟩) | (go_at_call 17; refine (l12Apart_any _ _ _ _ (by omega) (by omega) (by omega)).mono ?_; rintro e w' ⟨rfl, rfl⟩) | (go_at_call 18; refine (l1Size_any _ _).mono ?_; rintro e w' ⟨rfl, rfl⟩) | (go_at_call 19; refine (l1Fits_any _ _ _ HZ.out).mono ?_; rintro e w' ⟨rfl, rfl⟩) | (go_at_call 20; refine (l9Num_any _ _).mono ?_; rintro e w' ⟨rfl, rfl⟩))
     go_ret
     exact ⟨by rw [HV.out]; rfl, (Below.refl _ _).alloc (Nat.le_refl _) _⟩
 · have hS : sizeB sz = false := by simpa [sizeB] using hz
   clear hz
   have HV : Hid (accB nm 2 at_ sz tu (-1) 0 = false) := Lib.hid (by simp [accB, tagB, partsB, inB_m1, *])
   go_enter Tryd.func8, Tryd.ntmps8
   go_wp2_with (first | (go_at_call 15; refine (l1In_any _ _ _ _).mono ?_; rintro e w' ⟨rfl, rfl⟩) | (go_at_call 16; refine (l9Name_any _ _ hs).mono ?_; rintro e w' ⟨rfl, rfl⟩) | (go_at_call 17; refine (l12Apart_any _ _ _ _ (by omega) (by omega) (by omega)).mono ?_; rintro e w' ⟨rfl, rfl⟩) | (go_at_call 18; refine (l1Size_any _ _).mono ?_; rintro e w' ⟨rfl, rfl⟩) | (go_at_call 19; refine (l1Fits_any _ _ _ HZ.out).mono ?_; rintro e w' ⟨rfl, rfl⟩) | (go_at_call 20; refine (l9Num_any _ _).mono ?_; rintro e w' ⟨rfl, rfl⟩))
   go_ret
   exact ⟨by rw [HV.out]; rfl, (Below.refl _ _).alloc (Nat.le_refl _) _⟩
theorem specAcc_b (nm : ByteArray) (at_ sz tu : Int) (w : World) (hs : nm.size ≤ maxLen) (pl : Int) (hp : (pl == 0) = false) (k : Int) :
 Calls Tryd.prog 8 #[accV nm k at_ sz tu (-1) pl] w fun e w' => e = .returned (.bool (accB nm k at_ sz tu (-1) pl)) ∧ Below w.heap.size w w' := by
 unfold accV
 have hb := inB_m1
 have hp2 : ¬ pl = 0 := by simpa using hp
 cases hN : nameB nm
 · have hX := True.intro
   have HV : Hid (accB nm k at_ sz tu (-1) pl = false) := Lib.hid (by simp [accB, tagB, partsB, inB_m1, *])
   go_enter Tryd.func8, Tryd.ntmps8
   go_wp2_with (first | (go_at_call 15; refine (l1In_any _ _ _ _).mono ?_; rintro e w' ⟨rfl, rfl⟩) | (go_at_call 16; refine (l9Name_any _ _ hs).mono ?_; rintro e w' ⟨rfl, rfl⟩) | (go_at_call 17; refine (l12Apart_any _ _ _ _ (by omega) (by omega) (by omega)).mono ?_; rintro e w' ⟨rfl, rfl⟩) | (go_at_call 18; refine (l1Size_any _ _).mono ?_; rintro e w' ⟨rfl, rfl⟩) | (go_at_call 19; refine (l1Fits_any _ _ _ HZ.out).mono ?_; rintro e w' ⟨rfl, rfl⟩) | (go_at_call 20; refine (l9Num_any _ _).mono ?_; rintro e w' ⟨rfl, rfl⟩))
   go_ret
   exact ⟨by rw [HV.out]; rfl, (Below.refl _ _).alloc (Nat.le_refl _) _⟩
 · have hX := True.intro
   have HV : Hid (accB nm k at_ sz tu (-1) pl = false) := Lib.hid (by simp [accB, tagB, partsB, inB_m1, *])
   go_enter Tryd.func8, Tryd.ntmps8
   go_wp2_with (first | (go_at_call 15; refine (l1In_any _ _ _ _).mono ?_; rintro e w' ⟨rfl, rfl⟩) | (go_at_call 16; refine (l9Name_any _ _ hs).mono ?_; rintro e w' ⟨rfl, rfl⟩) | (go_at_call 17; refine (l12Apart_any _ _ _ _ (by omega) (by omega) (by omega)).mono ?_; rintro e w' ⟨rfl, rfl⟩) | (go_at_call 18; refine (l1Size_any _ _).mono ?_; rintro e w' ⟨rfl, rfl⟩) | (go_at_call 19; refine (l1Fits_any _ _ _ HZ.out).mono ?_; rintro e w' ⟨rfl, rfl⟩) | (go_at_call 20; refine (l9Num_any _ _).mono ?_; rintro e w' ⟨rfl, rfl⟩))
   go_ret
   exact ⟨by rw [HV.out]; rfl, (Below.refl _ _).alloc (Nat.le_refl _) _⟩
theorem specAcc_c (nm : ByteArray) (at_ sz tu : Int) (w : World) (hs : nm.size ≤ maxLen) (tg pl : Int) (hn1 : (tg == -1) = false) (hi : inB tg 0 1598 = false) (k : Int) :
 Calls Tryd.prog 8 #[accV nm k at_ sz tu tg pl] w fun e w' => e = .returned (.bool (accB nm k at_ sz tu tg pl)) ∧ Below w.heap.size w w' := by
 unfold accV
 have hn2 : ¬ tg = -1 := by simpa using hn1
 cases hN : nameB nm
 · have hX := True.intro
   have HV : Hid (accB nm k at_ sz tu tg pl = false) := Lib.hid (by simp [accB, tagB, partsB, inB_m1, *])
   go_enter Tryd.func8, Tryd.ntmps8
   go_wp2_with (first | (go_at_call 15; refine (l1In_any _ _ _ _).mono ?_; rintro e w' ⟨rfl, rfl⟩) | (go_at_call 16; refine (l9Name_any _ _ hs).mono ?_; rintro e w' ⟨rfl, rfl⟩) | (go_at_call 17; refine (l12Apart_any _ _ _ _ (by omega) (by omega) (by omega)).mono ?_; rintro e w' ⟨rfl, rfl⟩) | (go_at_call 18; refine (l1Size_any _ _).mono ?_; rintro e w' ⟨rfl, rfl⟩) | (go_at_call 19; refine (l1Fits_any _ _ _ HZ.out).mono ?_; rintro e w' ⟨rfl, rfl⟩) | (go_at_call 20; refine (l9Num_any _ _).mono ?_; rintro e w' ⟨rfl, rfl⟩))
   go_ret
   exact ⟨by rw [HV.out]; rfl, (Below.refl _ _).alloc (Nat.le_refl _) _⟩
 · have hX := True.intro
   have HV : Hid (accB nm k at_ sz tu tg pl = false) := Lib.hid (by simp [accB, tagB, partsB, inB_m1, *])
   go_enter Tryd.func8, Tryd.ntmps8
   go_wp2_with (first | (go_at_call 15; refine (l1In_any _ _ _ _).mono ?_; rintro e w' ⟨rfl, rfl⟩) | (go_at_call 16; refine (l9Name_any _ _ hs).mono ?_; rintro e w' ⟨rfl, rfl⟩) | (go_at_call 17; refine (l12Apart_any _ _ _ _ (by omega) (by omega) (by omega)).mono ?_; rintro e w' ⟨rfl, rfl⟩) | (go_at_call 18; refine (l1Size_any _ _).mono ?_; rintro e w' ⟨rfl, rfl⟩) | (go_at_call 19; refine (l1Fits_any _ _ _ HZ.out).mono ?_; rintro e w' ⟨rfl, rfl⟩) | (go_at_call 20; refine (l9Num_any _ _).mono ?_; rintro e w' ⟨rfl, rfl⟩))
   go_ret
   exact ⟨by rw [HV.out]; rfl, (Below.refl _ _).alloc (Nat.le_refl _) _⟩
theorem specAcc_d (nm : ByteArray) (at_ sz tu : Int) (w : World) (hs : nm.size ≤ maxLen) (tg pl : Int) (hn1 : (tg == -1) = false) (hi : inB tg 0 1598 = true) (h0 : 0 ≤ tg) (h9 : tg ≤ 1598) (hm : (tg % 2 == 0) = false) (k : Int) :
 Calls Tryd.prog 8 #[accV nm k at_ sz tu tg pl] w fun e w' => e = .returned (.bool (accB nm k at_ sz tu tg pl)) ∧ Below w.heap.size w w' := by
 unfold accV
 have hn2 : ¬ tg = -1 := by simpa using hn1
 have hm2 : ¬ tg % 2 = 0 := by simpa using hm
 cases hN : nameB nm
 · have hX := True.intro
   have HV : Hid (accB nm k at_ sz tu tg pl = false) := Lib.hid (by simp [accB, tagB, partsB, inB_m1, *])
   go_enter Tryd.func8, Tryd.ntmps8
   go_wp2_with (first | (go_at_call 15; refine (l1In_any _ _ _ _).mono ?_; rintro e w' ⟨rfl, rfl⟩) | (go_at_call 16; refine (l9Name_any _ _ hs).mono ?_; rintro e w' ⟨rfl, rfl⟩) | (go_at_call 17; refine (l12Apart_any _ _ _ _ (by omega) (by omega) (by omega)).mono ?_; rintro e w' ⟨rfl, rfl⟩) | (go_at_call 18; refine (l1Size_any _ _).mono ?_; rintro e w' ⟨rfl, rfl⟩) | (go_at_call 19; refine (l1Fits_any _ _ _ HZ.out).mono ?_; rintro e w' ⟨rfl, rfl⟩) | (go_at_call 20; refine (l9Num_any _ _).mono ?_; rintro e w' ⟨rfl, rfl⟩))
   go_ret
   exact ⟨by rw [HV.out]; rfl, (Below.refl _ _).alloc (Nat.le_refl _) _⟩
 · have hX := True.intro
   have HV : Hid (accB nm k at_ sz tu tg pl = false) := Lib.hid (by simp [accB, tagB, partsB, inB_m1, *])
   go_enter Tryd.func8, Tryd.ntmps8
   go_wp2_with (first | (go_at_call 15; refine (l1In_any _ _ _ _).mono ?_; rintro e w' ⟨rfl, rfl⟩) | (go_at_call 16; refine (l9Name_any _ _ hs).mono ?_; rintro e w' ⟨rfl, rfl⟩) | (go_at_call 17; refine (l12Apart_any _ _ _ _ (by omega) (by omega) (by omega)).mono ?_; rintro e w' ⟨rfl, rfl⟩) | (go_at_call 18; refine (l1Size_any _ _).mono ?_; rintro e w' ⟨rfl, rfl⟩) | (go_at_call 19; refine (l1Fits_any _ _ _ HZ.out).mono ?_; rintro e w' ⟨rfl, rfl⟩) | (go_at_call 20; refine (l9Num_any _ _).mono ?_; rintro e w' ⟨rfl, rfl⟩))
   go_ret
   exact ⟨by rw [HV.out]; rfl, (Below.refl _ _).alloc (Nat.le_refl _) _⟩
theorem specAcc_f (nm : ByteArray) (at_ sz tu : Int) (w : World) (hs : nm.size ≤ maxLen) (tg pl : Int) (hn1 : (tg == -1) = false) (hi : inB tg 0 1598 = true) (h0 : 0 ≤ tg) (h9 : tg ≤ 1598) (hm : (tg % 2 == 0) = true) (hp : inB pl 0 65535 = false) (k : Int) :
 Calls Tryd.prog 8 #[accV nm k at_ sz tu tg pl] w fun e w' => e = .returned (.bool (accB nm k at_ sz tu tg pl)) ∧ Below w.heap.size w w' := by
 unfold accV
 have hn2 : ¬ tg = -1 := by simpa using hn1
 have hm2 : tg % 2 = 0 := by simpa using hm
 cases hN : nameB nm
 · have hX := True.intro
   have HV : Hid (accB nm k at_ sz tu tg pl = false) := Lib.hid (by simp [accB, tagB, partsB, inB_m1, *])
   go_enter Tryd.func8, Tryd.ntmps8
   go_wp2_with (first | (go_at_call 15; refine (l1In_any _ _ _ _).mono ?_; rintro e w' ⟨rfl, rfl⟩) | (go_at_call 16; refine (l9Name_any _ _ hs).mono ?_; rintro e w' ⟨rfl, rfl⟩) | (go_at_call 17; refine (l12Apart_any _ _ _ _ (by omega) (by omega) (by omega)).mono ?_; rintro e w' ⟨rfl, rfl⟩) | (go_at_call 18; refine (l1Size_any _ _).mono ?_; rintro e w' ⟨rfl, rfl⟩) | (go_at_call 19; refine (l1Fits_any _ _ _ HZ.out).mono ?_; rintro e w' ⟨rfl, rfl⟩) | (go_at_call 20; refine (l9Num_any _ _).mono ?_; rintro e w' ⟨rfl, rfl⟩))
   go_ret
   exact ⟨by rw [HV.out]; rfl, (Below.refl _ _).alloc (Nat.le_refl _) _⟩
 · have hX := True.intro
   have HV : Hid (accB nm k at_ sz tu tg pl = false) := Lib.hid (by simp [accB, tagB, partsB, inB_m1, *])
   go_enter Tryd.func8, Tryd.ntmps8
   go_wp2_with (first | (go_at_call 15; refine (l1In_any _ _ _ _).mono ?_; rintro e w' ⟨rfl, rfl⟩) | (go_at_call 16; refine (l9Name_any _ _ hs).mono ?_; rintro e w' ⟨rfl, rfl⟩) | (go_at_call 17; refine (l12Apart_any _ _ _ _ (by omega) (by omega) (by omega)).mono ?_; rintro e w' ⟨rfl, rfl⟩) | (go_at_call 18; refine (l1Size_any _ _).mono ?_; rintro e w' ⟨rfl, rfl⟩) | (go_at_call 19; refine (l1Fits_any _ _ _ HZ.out).mono ?_; rintro e w' ⟨rfl, rfl⟩) | (go_at_call 20; refine (l9Num_any _ _).mono ?_; rintro e w' ⟨rfl, rfl⟩))
   go_ret
   exact ⟨by rw [HV.out]; rfl, (Below.refl _ _).alloc (Nat.le_refl _) _⟩
theorem specAcc_e_n (nm : ByteArray) (at_ sz tu : Int) (w : World) (hs : nm.size ≤ maxLen) (tg pl : Int) (hn1 : (tg == -1) = false) (hi : inB tg 0 1598 = true) (h0 : 0 ≤ tg) (h9 : tg ≤ 1598) (hm : (tg % 2 == 0) = true) (hp : inB pl 0 65535 = true) (k : Int) (hN : nameB nm = false) :
 Calls Tryd.prog 8 #[accV nm k at_ sz tu tg pl] w fun e w' => e = .returned (.bool (accB nm k at_ sz tu tg pl)) ∧ Below w.heap.size w w' := by
 unfold accV
 have hn2 : ¬ tg = -1 := by simpa using hn1
 have hm2 : tg % 2 = 0 := by simpa using hm
 have HV : Hid (accB nm k at_ sz tu tg pl = false) := Lib.hid (by simp [accB, tagB, partsB, inB_m1, *])
 go_enter Tryd.func8, Tryd.ntmps8
 go_wp2_with (first | (go_at_call 15; refine (l1In_any _ _ _ _).mono ?_; rintro e w' ⟨rfl, rfl⟩) | (go_at_call 16; refine (l9Name_any _ _ hs).mono ?_; rintro e w' ⟨rfl, rfl⟩) | (go_at_call 17; refine (l12Apart_any _ _ _ _ (by omega) (by omega) (by omega)).mono ?_; rintro e w' ⟨rfl, rfl⟩) | (go_at_call 18; refine (l1Size_any _ _).mono ?_; rintro e w' ⟨rfl, rfl⟩) | (go_at_call 19; refine (l1Fits_any _ _ _ HZ.out).mono ?_; rintro e w' ⟨rfl, rfl⟩) | (go_at_call 20; refine (l9Num_any _ _).mono ?_; rintro e w' ⟨rfl, rfl⟩))
 go_ret
 exact ⟨by rw [HV.out]; rfl, (Below.refl _ _).alloc (Nat.le_refl _) _⟩
theorem specAcc_e_p (nm : ByteArray) (at_ sz tu : Int) (w : World) (hs : nm.size ≤ maxLen) (tg pl : Int) (hn1 : (tg == -1) = false) (hi : inB tg 0 1598 = true) (h0 : 0 ≤ tg) (h9 : tg ≤ 1598) (hm : (tg % 2 == 0) = true) (hp : inB pl 0 65535 = true) (k : Int) (hN : nameB nm = true) (hA : inB at_ 0 12799 = false) :
 Calls Tryd.prog 8 #[accV nm k at_ sz tu tg pl] w fun e w' => e = .returned (.bool (accB nm k at_ sz tu tg pl)) ∧ Below w.heap.size w w' := by
 unfold accV
 have hn2 : ¬ tg = -1 := by simpa using hn1
 have hm2 : tg % 2 = 0 := by simpa using hm
 have HV : Hid (accB nm k at_ sz tu tg pl = false) := Lib.hid (by simp [accB, tagB, partsB, inB_m1, *])
 go_enter Tryd.func8, Tryd.ntmps8
 go_wp2_with (first | (go_at_call 15; refine (l1In_any _ _ _ _).mono ?_; rintro e w' ⟨rfl, rfl⟩) | (go_at_call 16; refine (l9Name_any _ _ hs).mono ?_; rintro e w' ⟨rfl, rfl⟩) | (go_at_call 17; refine (l12Apart_any _ _ _ _ (by omega) (by omega) (by omega)).mono ?_; rintro e w' ⟨rfl, rfl⟩) | (go_at_call 18; refine (l1Size_any _ _).mono ?_; rintro e w' ⟨rfl, rfl⟩) | (go_at_call 19; refine (l1Fits_any _ _ _ HZ.out).mono ?_; rintro e w' ⟨rfl, rfl⟩) | (go_at_call 20; refine (l9Num_any _ _).mono ?_; rintro e w' ⟨rfl, rfl⟩))
 go_ret
 exact ⟨by rw [HV.out]; rfl, (Below.refl _ _).alloc (Nat.le_refl _) _⟩
theorem specAcc_e_0 (nm : ByteArray) (at_ sz tu : Int) (w : World) (hs : nm.size ≤ maxLen) (tg pl : Int) (hn1 : (tg == -1) = false) (hi : inB tg 0 1598 = true) (h0 : 0 ≤ tg) (h9 : tg ≤ 1598) (hm : (tg % 2 == 0) = true) (hp : inB pl 0 65535 = true) (k : Int) (k1 : (k == 1) = false) (k2 : (k == 2) = false) (k3 : (k == 3) = false) (hN : nameB nm = true) (hA : inB at_ 0 12799 = true) (hA0 : 0 ≤ at_) (hA9 : at_ ≤ 12799) :
 Calls Tryd.prog 8 #[accV nm k at_ sz tu tg pl] w fun e w' => e = .returned (.bool (accB nm k at_ sz tu tg pl)) ∧ Below w.heap.size w w' := by
 unfold accV
 have hn2 : ¬ tg = -1 := by simpa using hn1
 have hm2 : tg % 2 = 0 := by simpa using hm
 have k1n : ¬ k = 1 := by simpa using k1
 have k2n : ¬ k = 2 := by simpa using k2
 have k3n : ¬ k = 3 := by simpa using k3
 have HV : Hid (accB nm k at_ sz tu tg pl = false) := Lib.hid (by simp [accB, tagB, partsB, inB_m1, *])
 go_enter Tryd.func8, Tryd.ntmps8
 go_wp2_with (first | (go_at_call 15; refine (l1In_any _ _ _ _).mono ?_; rintro e w' ⟨rfl, rfl⟩) | (go_at_call 16; refine (l9Name_any _ _ hs).mono ?_; rintro e w' ⟨rfl, rfl⟩) | (go_at_call 17; refine (l12Apart_any _ _ _ _ (by omega) (by omega) (by omega)).mono ?_; rintro e w' ⟨rfl, rfl⟩) | (go_at_call 18; refine (l1Size_any _ _).mono ?_; rintro e w' ⟨rfl, rfl⟩) | (go_at_call 19; refine (l1Fits_any _ _ _ HZ.out).mono ?_; rintro e w' ⟨rfl, rfl⟩) | (go_at_call 20; refine (l9Num_any _ _).mono ?_; rintro e w' ⟨rfl, rfl⟩))
 go_ret
 exact ⟨by rw [HV.out]; rfl, (Below.refl _ _).alloc (Nat.le_refl _) _⟩
theorem specAcc_e_1 (nm : ByteArray) (at_ sz tu : Int) (w : World) (hs : nm.size ≤ maxLen) (tg pl : Int) (hn1 : (tg == -1) = false) (hi : inB tg 0 1598 = true) (h0 : 0 ≤ tg) (h9 : tg ≤ 1598) (hm : (tg % 2 == 0) = true) (hp : inB pl 0 65535 = true) (hN : nameB nm = true) (hA : inB at_ 0 12799 = true) (hA0 : 0 ≤ at_) (hA9 : at_ ≤ 12799) :
 Calls Tryd.prog 8 #[accV nm 1 at_ sz tu tg pl] w fun e w' => e = .returned (.bool (accB nm 1 at_ sz tu tg pl)) ∧ Below w.heap.size w w' := by
 unfold accV
 have hn2 : ¬ tg = -1 := by simpa using hn1
 have hm2 : tg % 2 = 0 := by simpa using hm
 by_cases hz : sz = 0
 · subst hz
   cases hT : inB tu 0 1
   · have hX := True.intro
     have HV : Hid (accB nm 1 at_ 0 tu tg pl = false) := Lib.hid (by simp [accB, tagB, partsB, inB_m1, *])
     go_enter Tryd.func8, Tryd.ntmps8
     go_wp2_with (first | (go_at_call 15; refine (l1In_any _ _ _ _).mono ?_; rintro e w' ⟨rfl, rfl⟩) | (go_at_call 16; refine (l9Name_any _ _ hs).mono ?_; rintro e w' ⟨rfl, rfl⟩) | (go_at_call 17; refine (l12Apart_any _ _ _ _ (by omega) (by omega) (by omega)).mono ?_; rintro e w' ⟨rfl, rfl⟩) | (go_at_call 18; refine (l1Size_any _ _).mono ?_; rintro e w' ⟨rfl, rfl⟩) | (go_at_call 19; refine (l1Fits_any _ _ _ HZ.out).mono ?_; rintro e w' ⟨rfl, rfl⟩) | (go_at_call 20; refine (l9Num_any _ _).mono ?_; rintro e w' ⟨rfl, rfl⟩))
     go_ret
     exact ⟨by rw [HV.out]; rfl, (Below.refl _ _).alloc (Nat.le_refl _) _⟩
   · cases hQ : apartB (at_ / 8) 1 tg
     · have hX := True.intro
       have HV : Hid (accB nm 1 at_ 0 tu tg pl = false) := Lib.hid (by simp [accB, tagB, partsB, inB_m1, *])
       go_enter Tryd.func8, Tryd.ntmps8
       go_wp2_with (first | (go_at_call 15; refine (l1In_any _ _ _ _).mono ?_; rintro e w' ⟨rfl, rfl⟩) | (go_at_call 16; refine (l9Name_any _ _ hs).mono ?_; rintro e w' ⟨rfl, rfl⟩) | (go_at_call 17; refine (l12Apart_any _ _ _ _ (by omega) (by omega) (by omega)).mono ?_; rintro e w' ⟨rfl, rfl⟩) | (go_at_call 18; refine (l1Size_any _ _).mono ?_; rintro e w' ⟨rfl, rfl⟩) | (go_at_call 19; refine (l1Fits_any _ _ _ HZ.out).mono ?_; rintro e w' ⟨rfl, rfl⟩) | (go_at_call 20; refine (l9Num_any _ _).mono ?_; rintro e w' ⟨rfl, rfl⟩))
       go_ret
       exact ⟨by rw [HV.out]; rfl, (Below.refl _ _).alloc (Nat.le_refl _) _⟩
     · have hX := True.intro
       have HV : Hid (accB nm 1 at_ 0 tu tg pl = true) := Lib.hid (by simp [accB, tagB, partsB, inB_m1, *])
       go_enter Tryd.func8, Tryd.ntmps8
       go_wp2_with (first | (go_at_call 15; refine (l1In_any _ _ _ _).mono ?_; rintro e w' ⟨rfl, rfl⟩) | (go_at_call 16; refine (l9Name_any _ _ hs).mono ?_; rintro e w' ⟨rfl, rfl⟩) | (go_at_call 17; refine (l12Apart_any _ _ _ _ (by omega) (by omega) (by omega)).mono ?_; rintro e w' ⟨rfl, rfl⟩) | (go_at_call 18; refine (l1Size_any _ _).mono ?_; rintro e w' ⟨rfl, rfl⟩) | (go_at_call 19; refine (l1Fits_any _ _ _ HZ.out).mono ?_; rintro e w' ⟨rfl, rfl⟩) | (go_at_call 20; refine (l9Num_any _ _).mono ?_; rintro e w' ⟨rfl, rfl⟩))
       go_ret
       exact ⟨by rw [HV.out]; rfl, (Below.refl _ _).alloc (Nat.le_refl _) _⟩
 · have hz2 : (sz == 0) = false := by simpa using hz
   have HZN := Lib.hid hz
   have HV : Hid (accB nm 1 at_ sz tu tg pl = false) := Lib.hid (by simp [accB, tagB, partsB, inB_m1, *])
   go_enter Tryd.func8, Tryd.ntmps8
   go_wp2_with (first | (go_at_call 15; refine (l1In_any _ _ _ _).mono ?_; rintro e w' ⟨rfl, rfl⟩) | (go_at_call 16; refine (l9Name_any _ _ hs).mono ?_; rintro e w' ⟨rfl, rfl⟩) | (go_at_call 17; refine (l12Apart_any _ _ _ _ (by omega) (by omega) (by omega)).mono ?_; rintro e w' ⟨rfl, rfl⟩) | (go_at_call 18; refine (l1Size_any _ _).mono ?_; rintro e w' ⟨rfl, rfl⟩) | (go_at_call 19; refine (l1Fits_any _ _ _ HZ.out).mono ?_; rintro e w' ⟨rfl, rfl⟩) | (go_at_call 20; refine (l9Num_any _ _).mono ?_; rintro e w' ⟨rfl, rfl⟩))
   go_ret
   exact ⟨by rw [HV.out]; rfl, (Below.refl _ _).alloc (Nat.le_refl _) _⟩
theorem specAcc_e_3 (nm : ByteArray) (at_ sz tu : Int) (w : World) (hs : nm.size ≤ maxLen) (tg pl : Int) (hn1 : (tg == -1) = false) (hi : inB tg 0 1598 = true) (h0 : 0 ≤ tg) (h9 : tg ≤ 1598) (hm : (tg % 2 == 0) = true) (hp : inB pl 0 65535 = true) (hN : nameB nm = true) (hA : inB at_ 0 12799 = true) (hA0 : 0 ≤ at_) (hA9 : at_ ≤ 12799) :
 Calls Tryd.prog 8 #[accV nm 3 at_ sz tu tg pl] w fun e w' => e = .returned (.bool (accB nm 3 at_ sz tu tg pl)) ∧ Below w.heap.size w w' := by
 unfold accV
 have hn2 : ¬ tg = -1 := by simpa using hn1
 have hm2 : tg % 2 = 0 := by simpa using hm
 by_cases hz : sz = 0
 · subst hz
   by_cases ht : tu = 0
   · subst ht
     have HV : Hid (accB nm 3 at_ 0 0 tg pl = true) := Lib.hid (by simp [accB, tagB, partsB, inB_m1, *])
     go_enter Tryd.func8, Tryd.ntmps8
     go_wp2_with (first | (go_at_call 15; refine (l1In_any _ _ _ _).mono ?_; rintro e w' ⟨rfl, rfl⟩) | (go_at_call 16; refine (l9Name_any _ _ hs).mono ?_; rintro e w' ⟨rfl, rfl⟩) | (go_at_call 17; refine (l12Apart_any _ _ _ _ (by omega) (by omega) (by omega)).mono ?_; rintro e w' ⟨rfl, rfl⟩) | (go_at_call 18; refine (l1Size_any _ _).mono ?_; rintro e w' ⟨rfl, rfl⟩) | (go_at_call 19; refine (l1Fits_any _ _ _ HZ.out).mono ?_; rintro e w' ⟨rfl, rfl⟩) | (go_at_call 20; refine (l9Num_any _ _).mono ?_; rintro e w' ⟨rfl, rfl⟩))
     go_ret
     exact ⟨by rw [HV.out]; rfl, (Below.refl _ _).alloc (Nat.le_refl _) _⟩
   · have ht2 : (tu == 0) = false := by simpa using ht
     have HV : Hid (accB nm 3 at_ 0 tu tg pl = false) := Lib.hid (by simp [accB, tagB, partsB, inB_m1, *])
     go_enter Tryd.func8, Tryd.ntmps8
     go_wp2_with (first | (go_at_call 15; refine (l1In_any _ _ _ _).mono ?_; rintro e w' ⟨rfl, rfl⟩) | (go_at_call 16; refine (l9Name_any _ _ hs).mono ?_; rintro e w' ⟨rfl, rfl⟩) | (go_at_call 17; refine (l12Apart_any _ _ _ _ (by omega) (by omega) (by omega)).mono ?_; rintro e w' ⟨rfl, rfl⟩) | (go_at_call 18; refine (l1Size_any _ _).mono ?_; rintro e w' ⟨rfl, rfl⟩) | (go_at_call 19; refine (l1Fits_any _ _ _ HZ.out).mono ?_; rintro e w' ⟨rfl, rfl⟩) | (go_at_call 20; refine (l9Num_any _ _).mono ?_; rintro e w' ⟨rfl, rfl⟩))
     go_ret
     exact ⟨by rw [HV.out]; rfl, (Below.refl _ _).alloc (Nat.le_refl _) _⟩
 · have hz2 : (sz == 0) = false := by simpa using hz
   have HV : Hid (accB nm 3 at_ sz tu tg pl = false) := Lib.hid (by simp [accB, tagB, partsB, inB_m1, *])
   go_enter Tryd.func8, Tryd.ntmps8
   go_wp2_with (first | (go_at_call 15; refine (l1In_any _ _ _ _).mono ?_; rintro e w' ⟨rfl, rfl⟩) | (go_at_call 16; refine (l9Name_any _ _ hs).mono ?_; rintro e w' ⟨rfl, rfl⟩) | (go_at_call 17; refine (l12Apart_any _ _ _ _ (by omega) (by omega) (by omega)).mono ?_; rintro e w' ⟨rfl, rfl⟩) | (go_at_call 18; refine (l1Size_any _ _).mono ?_; rintro e w' ⟨rfl, rfl⟩) | (go_at_call 19; refine (l1Fits_any _ _ _ HZ.out).mono ?_; rintro e w' ⟨rfl, rfl⟩) | (go_at_call 20; refine (l9Num_any _ _).mono ?_; rintro e w' ⟨rfl, rfl⟩))
   go_ret
   exact ⟨by rw [HV.out]; rfl, (Below.refl _ _).alloc (Nat.le_refl _) _⟩
theorem specAcc_e_2 (nm : ByteArray) (at_ sz tu : Int) (w : World) (hs : nm.size ≤ maxLen) (tg pl : Int) (hn1 : (tg == -1) = false) (hi : inB tg 0 1598 = true) (h0 : 0 ≤ tg) (h9 : tg ≤ 1598) (hm : (tg % 2 == 0) = true) (hp : inB pl 0 65535 = true) (hN : nameB nm = true) (hA : inB at_ 0 12799 = true) (hA0 : 0 ≤ at_) (hA9 : at_ ≤ 12799) :
 Calls Tryd.prog 8 #[accV nm 2 at_ sz tu tg pl] w fun e w' => e = .returned (.bool (accB nm 2 at_ sz tu tg pl)) ∧ Below w.heap.size w w' := by
 unfold accV
 have hn2 : ¬ tg = -1 := by simpa using hn1
 have hm2 : tg % 2 = 0 := by simpa using hm
 by_cases hz : sz = 1 ∨ sz = 2 ∨ sz = 4 ∨ sz = 8
 · have HZ := Lib.hid hz
   have hz1 : 1 ≤ sz ∧ sz ≤ 8 := by omega
   obtain ⟨hz1, hz8⟩ := hz1
   have hS : sizeB sz = true := by simpa [sizeB] using hz
   clear hz
   have hz0 : (sz == 0) = false := by simp; omega
   by_cases hM : at_ % sz = 0
   · have hM2 : (at_ % sz == 0) = true := by simpa using hM
     cases hF : fitsB tu sz
     · have hX := True.intro
       have HV : Hid (accB nm 2 at_ sz tu tg pl = false) := Lib.hid (by simp [accB, tagB, partsB, inB_m1, *])
       go_enter Tryd.func8, Tryd.ntmps8
       go_wp2_with (first | (go_at_call 15; refine (l1In_any _ _ _ _).mono ?_; rintro e w' ⟨rfl, rfl⟩) | (go_at_call 16; refine (l9Name_any _ _ hs).mono ?_; rintro e w' ⟨rfl, rfl⟩) | (go_at_call 17; refine (l12Apart_any _ _ _ _ (by omega) (by omega) (by omega)).mono ?_; rintro e w' ⟨rfl, rfl⟩) | (go_at_call 18; refine (l1Size_any _ _).mono ?_; rintro e w' ⟨rfl, rfl⟩) | (go_at_call 19; refine (l1Fits_any _ _ _ HZ.out).mono ?_; rintro e w' ⟨rfl, rfl⟩) | (go_at_call 20; refine (l9Num_any _ _).mono ?_; rintro e w' ⟨rfl, rfl⟩))
       go_ret
       exact ⟨by rw [HV.out]; rfl, (Below.refl _ _).alloc (Nat.le_refl _) _⟩
     · cases hU : numB tu
       · have hX := True.intro
         have HV : Hid (accB nm 2 at_ sz tu tg pl = false) := Lib.hid (by simp [accB, tagB, partsB, inB_m1, *])
         go_enter Tryd.func8, Tryd.ntmps8
         go_wp2_with (first | (go_at_call 15; refine (l1In_any _ _ _ _).mono ?_; rintro e w' ⟨rfl, rfl⟩) | (go_at_call 16; refine (l9Name_any _ _ hs).mono ?_; rintro e w' ⟨rfl, rfl⟩) | (go_at_call 17; refine (l12Apart_any _ _ _ _ (by omega) (by omega) (by omega)).mono ?_; rintro e w' ⟨rfl, rfl⟩) | (go_at_call 18; refine (l1Size_any _ _).mono ?_; rintro e w' ⟨rfl, rfl⟩) | (go_at_call 19; refine (l1Fits_any _ _ _ HZ.out).mono ?_; rintro e w' ⟨rfl, rfl⟩) | (go_at_call 20; refine (l9Num_any _ _).mono ?_; rintro e w' ⟨rfl, rfl⟩))
         go_ret
         exact ⟨by rw [HV.out]; rfl, (Below.refl _ _).alloc (Nat.le_refl _) _⟩
       · cases hQ : apartB at_ sz tg
         · have hX := True.intro
           have HV : Hid (accB nm 2 at_ sz tu tg pl = false) := Lib.hid (by simp [accB, tagB, partsB, inB_m1, *])
           go_enter Tryd.func8, Tryd.ntmps8
           go_wp2_with (first | (go_at_call 15; refine (l1In_any _ _ _ _).mono ?_; rintro e w' ⟨rfl, rfl⟩) | (go_at_call 16; refine (l9Name_any _ _ hs).mono ?_; rintro e w' ⟨rfl, rfl⟩) | (go_at_call 17; refine (l12Apart_any _ _ _ _ (by omega) (by omega) (by omega)).mono ?_; rintro e w' ⟨rfl, rfl⟩) | (go_at_call 18; refine (l1Size_any _ _).mono ?_; rintro e w' ⟨rfl, rfl⟩) | (go_at_call 19; refine (l1Fits_any _ _ _ HZ.out).mono ?_; rintro e w' ⟨rfl, rfl⟩) | (go_at_call 20; refine (l9Num_any _ _).mono ?_; rintro e w' ⟨rfl, rfl⟩))
           go_ret
           exact ⟨by rw [HV.out]; rfl, (Below.refl _ _).alloc (Nat.le_refl _) _⟩
         · have hX := True.intro
           have HV : Hid (accB nm 2 at_ sz tu tg pl = true) := Lib.hid (by simp [accB, tagB, partsB, inB_m1, *])
           go_enter Tryd.func8, Tryd.ntmps8
           go_wp2_with (first | (go_at_call 15; refine (l1In_any _ _ _ _).mono ?_; rintro e w' ⟨rfl, rfl⟩) | (go_at_call 16; refine (l9Name_any _ _ hs).mono ?_; rintro e w' ⟨rfl, rfl⟩) | (go_at_call 17; refine (l12Apart_any _ _ _ _ (by omega) (by omega) (by omega)).mono ?_; rintro e w' ⟨rfl, rfl⟩) | (go_at_call 18; refine (l1Size_any _ _).mono ?_; rintro e w' ⟨rfl, rfl⟩) | (go_at_call 19; refine (l1Fits_any _ _ _ HZ.out).mono ?_; rintro e w' ⟨rfl, rfl⟩) | (go_at_call 20; refine (l9Num_any _ _).mono ?_; rintro e w' ⟨rfl, rfl⟩))
           go_ret
           exact ⟨by rw [HV.out]; rfl, (Below.refl _ _).alloc (Nat.le_refl _) _⟩
   · have hM2 : (at_ % sz == 0) = false := by simpa using hM
     have HV : Hid (accB nm 2 at_ sz tu tg pl = false) := Lib.hid (by simp [accB, tagB, partsB, inB_m1, *])
     go_enter Tryd.func8, Tryd.ntmps8
     go_wp2_with (first | (go_at_call 15; refine (l1In_any _ _ _ _).mono ?_; rintro e w' ⟨rfl, rfl⟩) | (go_at_call 16; refine (l9Name_any _ _ hs).mono ?_; rintro e w' ⟨rfl, rfl⟩) | (go_at_call 17; refine (l12Apart_any _ _ _ _ (by omega) (by omega) (by omega)).mono ?_; rintro e w' ⟨rfl, rfl⟩) | (go_at_call 18; refine (l1Size_any _ _).mono ?_; rintro e w' ⟨rfl, rfl⟩) | (go_at_call 19; refine (l1Fits_any _ _ _ HZ.out).mono ?_; rintro e w' ⟨rfl, rfl⟩) | (go_at_call 20; refine (l9Num_any _ _).mono ?_; rintro e w' ⟨rfl, rfl⟩))
     go_ret
     exact ⟨by rw [HV.out]; rfl, (Below.refl _ _).alloc (Nat.le_refl _) _⟩
 · have hS : sizeB sz = false := by simpa [sizeB] using hz
   clear hz
   have HV : Hid (accB nm 2 at_ sz tu tg pl = false) := Lib.hid (by simp [accB, tagB, partsB, inB_m1, *])
   go_enter Tryd.func8, Tryd.ntmps8
   go_wp2_with (first | (go_at_call 15; refine (l1In_any _ _ _ _).mono ?_; rintro e w' ⟨rfl, rfl⟩) | (go_at_call 16; refine (l9Name_any _ _ hs).mono ?_; rintro e w' ⟨rfl, rfl⟩) | (go_at_call 17; refine (l12Apart_any _ _ _ _ (by omega) (by omega) (by omega)).mono ?_; rintro e w' ⟨rfl, rfl⟩) | (go_at_call 18; refine (l1Size_any _ _).mono ?_; rintro e w' ⟨rfl, rfl⟩) | (go_at_call 19; refine (l1Fits_any _ _ _ HZ.out).mono ?_; rintro e w' ⟨rfl, rfl⟩) | (go_at_call 20; refine (l9Num_any _ _).mono ?_; rintro e w' ⟨rfl, rfl⟩))
   go_ret
   exact ⟨by rw [HV.out]; rfl, (Below.refl _ _).alloc (Nat.le_refl _) _⟩
theorem specAccessOk_any (nm : ByteArray) (k at_ sz tu tg pl : Int) (w : World) (hs : nm.size ≤ maxLen) :
 Calls Tryd.prog 8 #[accV nm k at_ sz tu tg pl] w fun e w' => e = .returned (.bool (accB nm k at_ sz tu tg pl)) ∧ Below w.heap.size w w' := by
 have main : ∀ (go_n : nameB nm = false → Calls Tryd.prog 8 #[accV nm k at_ sz tu tg pl] w fun e w' => e = .returned (.bool (accB nm k at_ sz tu tg pl)) ∧ Below w.heap.size w w')
  (go_p : nameB nm = true → inB at_ 0 12799 = false → Calls Tryd.prog 8 #[accV nm k at_ sz tu tg pl] w fun e w' => e = .returned (.bool (accB nm k at_ sz tu tg pl)) ∧ Below w.heap.size w w')
  (go_k : nameB nm = true → inB at_ 0 12799 = true → 0 ≤ at_ → at_ ≤ 12799 → Calls Tryd.prog 8 #[accV nm k at_ sz tu tg pl] w fun e w' => e = .returned (.bool (accB nm k at_ sz tu tg pl)) ∧ Below w.heap.size w w'),
  Calls Tryd.prog 8 #[accV nm k at_ sz tu tg pl] w fun e w' => e = .returned (.bool (accB nm k at_ sz tu tg pl)) ∧ Below w.heap.size w w' := by
  intro go_n go_p go_k
  cases hN : nameB nm
  · exact go_n hN
  · cases hA : inB at_ 0 12799
    · exact go_p hN hA
    · have : 0 ≤ at_ ∧ at_ ≤ 12799 := by simpa [inB] using hA
      exact go_k hN hA this.1 this.2
 have kk : ∀ j : Int, ¬ k = j → (k == j) = false := fun j h => by simpa using h
 by_cases h1 : tg = -1
 · subst h1
   by_cases h2 : pl = 0
   · subst h2
     refine main (fun hN => specAcc_a_n _ _ _ _ _ hs k hN) (fun hN hA => specAcc_a_p _ _ _ _ _ hs k hN hA) (fun hN hA a0 a9 => ?_)
     by_cases k1 : k = 1
     · subst k1; exact specAcc_a_1 _ _ _ _ _ hs hN hA a0 a9
     by_cases k2 : k = 2
     · subst k2; exact specAcc_a_2 _ _ _ _ _ hs hN hA a0 a9
     by_cases k3 : k = 3
     · subst k3; exact specAcc_a_3 _ _ _ _ _ hs hN hA a0 a9
     exact specAcc_a_0 _ _ _ _ _ hs k (kk _ k1) (kk _ k2) (kk _ k3) hN hA a0 a9
   · exact specAcc_b _ _ _ _ _ hs pl (by simpa using h2) k
 · have hn1 : (tg == -1) = false := by simpa using h1
   cases hi : inB tg 0 1598
   · exact specAcc_c _ _ _ _ _ hs tg pl hn1 hi k
   · have hb : 0 ≤ tg ∧ tg ≤ 1598 := by simpa [inB] using hi
     obtain ⟨t0, t9⟩ := hb
     by_cases hm : tg % 2 = 0
     · have hm2 : (tg % 2 == 0) = true := by simpa using hm
       cases hp : inB pl 0 65535
       · exact specAcc_f _ _ _ _ _ hs tg pl hn1 hi t0 t9 hm2 hp k
       · refine main (fun hN => specAcc_e_n _ _ _ _ _ hs tg pl hn1 hi t0 t9 hm2 hp k hN) (fun hN hA => specAcc_e_p _ _ _ _ _ hs tg pl hn1 hi t0 t9 hm2 hp k hN hA) (fun hN hA a0 a9 => ?_)
         by_cases k1 : k = 1
         · subst k1; exact specAcc_e_1 _ _ _ _ _ hs tg pl hn1 hi t0 t9 hm2 hp hN hA a0 a9
         by_cases k2 : k = 2
         · subst k2; exact specAcc_e_2 _ _ _ _ _ hs tg pl hn1 hi t0 t9 hm2 hp hN hA a0 a9
         by_cases k3 : k = 3
         · subst k3; exact specAcc_e_3 _ _ _ _ _ hs tg pl hn1 hi t0 t9 hm2 hp hN hA a0 a9
         exact specAcc_e_0 _ _ _ _ _ hs tg pl hn1 hi t0 t9 hm2 hp k (kk _ k1) (kk _ k2) (kk _ k3) hN hA a0 a9
     · exact specAcc_d _ _ _ _ _ hs tg pl hn1 hi t0 t9 (by simpa using hm) k
structure Pt where
 s : ByteArray
 o : Nat
 v : Int
def joinP (t : ByteArray) : List Pt → ByteArray
 | [] => t
 | p :: r => joinP (t ++ (p.s ++ decB p.v)) r
abbrev wBit : ByteArray := ⟨#[32, 105, 115, 32, 98, 105, 116, 32]⟩
abbrev wBytes : ByteArray := ⟨#[32, 105, 115, 32, 98, 121, 116, 101, 115, 32]⟩
abbrev wPtr : ByteArray := ⟨#[32, 105, 115, 32, 112, 111, 105, 110, 116, 101, 114, 32]⟩
abbrev wTurn : ByteArray := ⟨#[32, 116, 117, 114, 110, 101, 100, 32]⟩
abbrev wSize : ByteArray := ⟨#[32, 115, 105, 122, 101, 32]⟩
abbrev wIf : ByteArray := ⟨#[32, 105, 102, 32]⟩
abbrev wTells : ByteArray := ⟨#[32, 116, 101, 108, 108, 115, 32]⟩
def kindL (k at_ sz tu : Int) : List Pt := if k = 1 then [⟨wBit, 2, at_⟩, ⟨wTurn, 4, tu⟩] else if k = 2 then [⟨wBytes, 2, at_⟩, ⟨wSize, 3, sz⟩, ⟨wTurn, 4, tu⟩] else [⟨wPtr, 2, at_⟩]
def tagLs (tg pl : Int) : List Pt := if tg < 0 then [] else [⟨wIf, 5, tg⟩, ⟨wTells, 6, pl⟩]
def accTxt (nm : ByteArray) (k at_ sz tu tg pl : Int) : ByteArray := joinP nm (kindL k at_ sz tu ++ tagLs tg pl)
def accT (nm : ByteArray) (k at_ sz tu tg pl : Int) : ByteArray := if accB nm k at_ sz tu tg pl = true then accTxt nm k at_ sz tu tg pl else ⟨#[]⟩
theorem acc_txt {nm : ByteArray} {k at_ sz tu tg pl : Int} (h : accB nm k at_ sz tu tg pl = true) : nm.size ≤ 10 ∧ (0 ≤ at_ ∧ at_ ≤ 12799) ∧ (0 ≤ sz ∧ sz ≤ 8) ∧ (-1000000000000000000 ≤ tu ∧ tu ≤ 1000000000000000000) ∧ (tg = -1 ∨ ((0 ≤ tg ∧ tg ≤ 1598) ∧ (0 ≤ pl ∧ pl ≤ 65535))) ∧ (k = 1 ∨ k = 2 ∨ k = 3) := by
 unfold accB at h
 simp only [Bool.and_eq_true] at h
 obtain ⟨hn, ht, ha, hp⟩ := h
 unfold nameB at hn
 simp only [Bool.and_eq_true, decide_eq_true_eq] at hn
 simp [tagB, inB] at ht ha
 refine ⟨hn.1.2, by omega, ?_, ?_, by omega, ?_⟩
 · unfold partsB at hp
   split at hp
   · simp [inB] at hp; omega
   · split at hp
     · simp [sizeB] at hp; omega
     · split at hp
       · simp at hp; omega
       · cases hp
 · unfold partsB at hp
   split at hp
   · simp [inB] at hp; omega
   · split at hp
     · simp [numB, inB] at hp; omega
     · split at hp
       · simp at hp; omega
       · cases hp
 · unfold partsB at hp
   split at hp
   · left; assumption
   · split at hp
     · right; left; assumption
     · split at hp
       · right; right; assumption
       · cases hp
theorem app_l (u v : ByteArray) : (u ++ v).data.toList = u.data.toList ++ v.data.toList := by simp
theorem l12Text_any {nm : ByteArray} {k at_ sz tu tg pl : Int} (h : accB nm k at_ sz tu tg pl = true) (w : World) :
 Calls Tryd.prog 9 #[accV nm k at_ sz tu tg pl] w fun e w' => e = .returned (.string (accTxt nm k at_ sz tu tg pl)) ∧ Below w.heap.size w w' := by
 obtain ⟨hs, h0, hz, hu, ht, hk⟩ := acc_txt h
 rcases ht with rfl | ⟨ht, hp⟩
 · rcases hk with rfl | rfl | rfl
   · refine (l12Text_1n nm hs at_ sz tu (-1) pl h0 hz hu (by decide) w).mono ?_
     rintro e w' ⟨rfl, hb⟩
     refine ⟨congrArg (fun b => Ending.returned (.string b)) (ext_ba ?_), hb⟩
     simp [accTxt, kindL, tagLs, joinP, app_l, List.append_assoc]
   · refine (l12Text_2n nm hs at_ sz tu (-1) pl h0 hz hu (by decide) w).mono ?_
     rintro e w' ⟨rfl, hb⟩
     refine ⟨congrArg (fun b => Ending.returned (.string b)) (ext_ba ?_), hb⟩
     simp [accTxt, kindL, tagLs, joinP, app_l, List.append_assoc]
   · refine (l12Text_3n nm hs at_ sz tu (-1) pl h0 (by decide) w).mono ?_
     rintro e w' ⟨rfl, hb⟩
     refine ⟨congrArg (fun b => Ending.returned (.string b)) (ext_ba ?_), hb⟩
     simp [accTxt, kindL, tagLs, joinP, app_l, List.append_assoc]
 · have hng : ¬ tg < 0 := by omega
   rcases hk with rfl | rfl | rfl
   · refine (l12Text_1t nm hs at_ sz tu tg pl h0 hz hu ht hp w).mono ?_
     rintro e w' ⟨rfl, hb⟩
     refine ⟨congrArg (fun b => Ending.returned (.string b)) (ext_ba ?_), hb⟩
     simp [accTxt, kindL, tagLs, joinP, app_l, List.append_assoc, hng]
   · refine (l12Text_2t nm hs at_ sz tu tg pl h0 hz hu ht hp w).mono ?_
     rintro e w' ⟨rfl, hb⟩
     refine ⟨congrArg (fun b => Ending.returned (.string b)) (ext_ba ?_), hb⟩
     simp [accTxt, kindL, tagLs, joinP, app_l, List.append_assoc, hng]
   · refine (l12Text_3t nm hs at_ sz tu tg pl h0 hz hu ht hp w).mono ?_
     rintro e w' ⟨rfl, hb⟩
     refine ⟨congrArg (fun b => Ending.returned (.string b)) (ext_ba ?_), hb⟩
     simp [accTxt, kindL, tagLs, joinP, app_l, List.append_assoc, hng]
theorem specAccessText_a (nm : ByteArray) (k at_ sz tu tg pl : Int) (w : World) (hs : nm.size ≤ maxLen) :
 Calls Tryd.prog 5 #[accV nm k at_ sz tu tg pl] w fun e w' => e = .returned (.string (accT nm k at_ sz tu tg pl)) ∧ Below w.heap.size w w' := by
 have HS := Lib.hid (fun w => specAccessOk_any nm k at_ sz tu tg pl w hs)
 have HB0 := Lib.hid ((Below.refl w.heap.size w).alloc (Nat.le_refl _) (.cells #[.string nm, .int .i64 k, .int .i64 at_, .int .i64 sz, .int .i64 tu, .int .i64 tg, .int .i64 pl] 26))
 have R0 := Lib.hid (heap_alloc_new w (.cells #[.string nm, .int .i64 k, .int .i64 at_, .int .i64 sz, .int .i64 tu, .int .i64 tg, .int .i64 pl] 26))
 obtain ⟨a0, a1, a2, a3, a4, a5, a6⟩ := cells7 R0.out
 cases hok : accB nm k at_ sz tu tg pl
 · have HX : Hid (accT nm k at_ sz tu tg pl = ⟨#[]⟩) := Lib.hid (by unfold accT; rw [hok]; rfl)
   rw [hok] at HS
   clear hok
   unfold accV at HS ⊢
   go_enter Tryd.func5, Tryd.ntmps5
   go_wp2_with fail
   refine (HS.out _).mono ?_
   rintro e w1 ⟨rfl, hb1⟩
   have HB1 := Lib.hid (HB0.out.trans (hb1.mono HB0.out.size))
   clear hb1 a0 a1 a2 a3 a4 a5 a6
   go_wp2
   go_ret
   exact ⟨by rw [HX.out]; rfl, HB1.out⟩
 · have HX : Hid (accT nm k at_ sz tu tg pl = accTxt nm k at_ sz tu tg pl) := Lib.hid (by unfold accT; rw [if_pos hok])
   have HT := Lib.hid (fun w => l12Text_any hok w)
   rw [hok] at HS
   clear hok
   unfold accV at HS HT ⊢
   go_enter Tryd.func5, Tryd.ntmps5
   go_wp2_with fail
   refine (HS.out _).mono ?_
   rintro e w1 ⟨rfl, hb1⟩
   have hr1 := kept7 R0.out hb1
   have HB1 := Lib.hid (HB0.out.trans (hb1.mono HB0.out.size))
   clear hb1 a0 a1 a2 a3 a4 a5 a6
   obtain ⟨a0, a1, a2, a3, a4, a5, a6⟩ := cells7 hr1
   clear hr1
   go_wp2_with fail
   refine (HT.out _).mono ?_
   rintro e w2 ⟨rfl, hb2⟩
   have HB2 := Lib.hid (HB1.out.trans (hb2.mono HB1.out.size))
   clear hb2
   go_wp2
   go_ret
   exact ⟨by rw [HX.out]; rfl, HB2.out⟩
open Go.RowKit Go.Deep
abbrev lineT : TypeId := 35
def ptC (b : Nat) : List Pt → List Value
 | [] => []
 | p :: r => .string p.s :: .pointer (some ⟨b, p.o, none⟩) :: ptC b r
def PartsQ (b : Nat) (L : List Pt) (w : World) (e : Ending) (w' : World) : Prop := e = .returned (.slice (some ⟨w.heap.size, 0, none⟩) L.length L.length) ∧ w'.heap[w.heap.size]? = some (.cells (ptC b L).toArray lineT (0, 0)) ∧ Below w.heap.size w w'
theorem tagParts_a (b : Nat) (tg pl : Int) (w : World) :
 Calls Tryd.prog 13 #[.pointer (some ⟨b, 0, none⟩)] w (PartsQ b [⟨wIf, 5, tg⟩, ⟨wTells, 6, pl⟩] w) := by
 have HB := Lib.hid ((Below.refl w.heap.size w).alloc (Nat.le_refl _) (.cells #[.string wIf, .pointer (some ⟨b, 5, none⟩), .string wTells, .pointer (some ⟨b, 6, none⟩)] lineT))
 have HR := Lib.hid (heap_alloc_new w (.cells #[.string wIf, .pointer (some ⟨b, 5, none⟩), .string wTells, .pointer (some ⟨b, 6, none⟩)] lineT))
 go_enter Tryd.func13, Tryd.ntmps13
 go_wp2
 go_region
 go_wp2
 go_ret
 exact ⟨rfl, HR.out, HB.out.drew⟩
theorem kindParts_1 (b : Nat) (nm : ByteArray) (at_ sz tu tg pl : Int) (w : World) (hr : w.heap[b]? = some (.cells #[.string nm, .int .i64 1, .int .i64 at_, .int .i64 sz, .int .i64 tu, .int .i64 tg, .int .i64 pl] 26 (0, 0))) :
 Calls Tryd.prog 11 #[.pointer (some ⟨b, 0, none⟩)] w (PartsQ b [⟨wBit, 2, at_⟩, ⟨wTurn, 4, tu⟩] w) := by
 have HB := Lib.hid ((Below.refl w.heap.size w).alloc (Nat.le_refl _) (.cells #[.string wBit, .pointer (some ⟨b, 2, none⟩), .string wTurn, .pointer (some ⟨b, 4, none⟩)] lineT))
 have HR := Lib.hid (heap_alloc_new w (.cells #[.string wBit, .pointer (some ⟨b, 2, none⟩), .string wTurn, .pointer (some ⟨b, 4, none⟩)] lineT))
 obtain ⟨a0, a1, a2, a3, a4, a5, a6⟩ := cells7 hr
 clear hr
 go_enter Tryd.func11, Tryd.ntmps11
 go_wp2
 go_region
 go_wp2
 go_ret
 exact ⟨rfl, HR.out, HB.out.drew⟩
theorem kindParts_2 (b : Nat) (nm : ByteArray) (at_ sz tu tg pl : Int) (w : World) (hr : w.heap[b]? = some (.cells #[.string nm, .int .i64 2, .int .i64 at_, .int .i64 sz, .int .i64 tu, .int .i64 tg, .int .i64 pl] 26 (0, 0))) :
 Calls Tryd.prog 11 #[.pointer (some ⟨b, 0, none⟩)] w (PartsQ b [⟨wBytes, 2, at_⟩, ⟨wSize, 3, sz⟩, ⟨wTurn, 4, tu⟩] w) := by
 have HB := Lib.hid ((Below.refl w.heap.size w).alloc (Nat.le_refl _) (.cells #[.string wBytes, .pointer (some ⟨b, 2, none⟩), .string wSize, .pointer (some ⟨b, 3, none⟩), .string wTurn, .pointer (some ⟨b, 4, none⟩)] lineT))
 have HR := Lib.hid (heap_alloc_new w (.cells #[.string wBytes, .pointer (some ⟨b, 2, none⟩), .string wSize, .pointer (some ⟨b, 3, none⟩), .string wTurn, .pointer (some ⟨b, 4, none⟩)] lineT))
 obtain ⟨a0, a1, a2, a3, a4, a5, a6⟩ := cells7 hr
 clear hr
 go_enter Tryd.func11, Tryd.ntmps11
 go_wp2
 go_region
 go_wp2
 go_ret
 exact ⟨rfl, HR.out, HB.out.drew⟩
theorem kindParts_3 (b : Nat) (nm : ByteArray) (at_ sz tu tg pl : Int) (w : World) (hr : w.heap[b]? = some (.cells #[.string nm, .int .i64 3, .int .i64 at_, .int .i64 sz, .int .i64 tu, .int .i64 tg, .int .i64 pl] 26 (0, 0))) :
 Calls Tryd.prog 11 #[.pointer (some ⟨b, 0, none⟩)] w (PartsQ b [⟨wPtr, 2, at_⟩] w) := by
 have HB := Lib.hid ((Below.refl w.heap.size w).alloc (Nat.le_refl _) (.cells #[.string wPtr, .pointer (some ⟨b, 2, none⟩)] lineT))
 have HR := Lib.hid (heap_alloc_new w (.cells #[.string wPtr, .pointer (some ⟨b, 2, none⟩)] lineT))
 obtain ⟨a0, a1, a2, a3, a4, a5, a6⟩ := cells7 hr
 clear hr
 go_enter Tryd.func11, Tryd.ntmps11
 go_wp2
 go_ret
 exact ⟨rfl, HR.out, HB.out⟩
theorem kindParts_a (b : Nat) (nm : ByteArray) (k at_ sz tu tg pl : Int) (hk : k = 1 ∨ k = 2 ∨ k = 3) (w : World) (hr : w.heap[b]? = some (.cells #[.string nm, .int .i64 k, .int .i64 at_, .int .i64 sz, .int .i64 tu, .int .i64 tg, .int .i64 pl] 26 (0, 0))) :
 Calls Tryd.prog 11 #[.pointer (some ⟨b, 0, none⟩)] w (PartsQ b (kindL k at_ sz tu) w) := by
 rcases hk with rfl | rfl | rfl
 · exact kindParts_1 b nm at_ sz tu tg pl w hr
 · exact kindParts_2 b nm at_ sz tu tg pl w hr
 · exact kindParts_3 b nm at_ sz tu tg pl w hr
end Go.Proofs.YtfnecflkahmjoaaDoor
