/- Texts of the proof of the law FnExactAccessText, side by side: part 1. -/
import Derived.Deep.RegionHeld3
import Derived.Test.YtfnecflkahmjoaaDoorMExactAccessText00
set_option maxHeartbeats 8000000
set_option maxRecDepth 100000
namespace Go.Proofs.YtfnecflkahmjoaaDoor
open Go.RowKit
def accV (nm : ByteArray) (k at_ sz tu tg pl : Int) : Value := .agg #[.string nm, .int .i64 k, .int .i64 at_, .int .i64 sz, .int .i64 tu, .int .i64 tg, .int .i64 pl]
def tagB (tg pl : Int) : Bool := decide (tg = -1 ∧ pl = 0) || (inB tg 0 1598 && (decide (tg % 2 = 0) && inB pl 0 65535))
def apartB (at_ sz tg : Int) : Bool := decide (tg < 0 ∨ at_ + sz ≤ tg ∨ tg + 2 ≤ at_)
def numB (n : Int) : Bool := inB n (-999999999999999999) 999999999999999999
def partsB (k at_ sz tu tg : Int) : Bool :=
 if k = 1 then decide (sz = 0) && (inB tu 0 1 && apartB (at_ / 8) 1 tg)
 else if k = 2 then sizeB sz && (decide (at_ % sz = 0) && (fitsB tu sz && (numB tu && apartB at_ sz tg)))
 else if k = 3 then decide (sz = 0 ∧ tu = 0) else false
def accB (nm : ByteArray) (k at_ sz tu tg pl : Int) : Bool := nameB nm && (tagB tg pl && (inB at_ 0 12799 && partsB k at_ sz tu tg))
theorem cells7 {w : World} {b : Nat} {a0 a1 a2 a3 a4 a5 a6 : Value} {T : TypeId} (h : w.heap[b]? = some (.cells #[a0, a1, a2, a3, a4, a5, a6] T (0, 0))) :
 w.cell? ⟨b, 0, none⟩ = some a0 ∧ w.cell? ⟨b, 1, none⟩ = some a1 ∧ w.cell? ⟨b, 2, none⟩ = some a2 ∧ w.cell? ⟨b, 3, none⟩ = some a3 ∧ w.cell? ⟨b, 4, none⟩ = some a4 ∧ w.cell? ⟨b, 5, none⟩ = some a5 ∧ w.cell? ⟨b, 6, none⟩ = some a6 := by
 simp [World.cell?, h]
theorem kept7 {w w' : World} {b : Nat} {o : Obj} (h : w.heap[b]? = some o) (hb : Below w.heap.size w w') : w'.heap[b]? = some o := by
 have hlt : b < w.heap.size := by
  rcases Nat.lt_or_ge b w.heap.size with hlt | hge
  · exact hlt
  · rw [Array.getElem?_eq_none hge] at h; cases h
 exact (hb.block b hlt).trans h
abbrev i64b (n : Int) : Prop := -9223372036854775808 ≤ n ∧ n ≤ 9223372036854775807
theorem hasFigures_any (n : Int) (w : World) :
 Calls Tryd.prog 32 #[.int .i64 n] w fun e w' => e = .returned (.bool (numB n)) ∧ w = w' := by
 by_cases h1 : -1000000000000000000 < n
 all_goals
  go_enter Tryd.func32, Tryd.ntmps32
  go_wp2
  all_goals go_ret
  all_goals refine ⟨ret_bool ?_, rfl⟩
  all_goals (rw [Bool.eq_iff_iff]; simp [numB, inB]; try omega)
theorem l9Num_any (n : Int) (w : World) :
 Calls Tryd.prog 20 #[.int .i64 n] w fun e w' => e = .returned (.bool (numB n)) ∧ w = w' := by
 go_enter Tryd.func20, Tryd.ntmps20
 go_wp2_with (go_at_call 15; refine (l1In_any _ _ _ _).mono ?_; rintro e w' ⟨rfl, rfl⟩)
 go_ret
 exact ⟨rfl, rfl⟩
theorem l12Apart_any (at_ sz tg : Int) (w : World) (h1 : 0 ≤ at_ ∧ at_ ≤ 100000) (h2 : 0 ≤ sz ∧ sz ≤ 8) (h3 : tg ≤ 100000) :
 Calls Tryd.prog 17 #[.int .i64 at_, .int .i64 sz, .int .i64 tg] w fun e w' => e = .returned (.bool (apartB at_ sz tg)) ∧ w = w' := by
 by_cases h4 : tg < 0 <;> by_cases h5 : at_ + sz ≤ tg
 all_goals
  go_enter Tryd.func17, Tryd.ntmps17
  go_wp2
  all_goals go_ret
  all_goals refine ⟨ret_bool ?_, rfl⟩
  all_goals (rw [Bool.eq_iff_iff]; simp [apartB]; try omega)
theorem isTagged_any (nm : ByteArray) (k at_ sz tu tg pl : Int) (w : World) :
 Calls Tryd.prog 12 #[accV nm k at_ sz tu tg pl] w fun e w' => e = .returned (.bool (decide (0 ≤ tg))) ∧ Below w.heap.size w w' := by
 unfold accV
 go_enter Tryd.func12, Tryd.ntmps12
 go_wp2
 go_ret
 exact ⟨rfl, (Below.refl _ _).alloc (Nat.le_refl _) _⟩
theorem tagOk_any (nm : ByteArray) (k at_ sz tu tg pl : Int) (w : World) (hp : i64b pl) :
 Calls Tryd.prog 24 #[accV nm k at_ sz tu tg pl] w fun e w' => e = .returned (.bool (tagB tg pl)) ∧ Below w.heap.size w w' := by
 unfold accV
 by_cases h : 0 ≤ tg
 · have HD : Hid (decide (0 ≤ tg) = true) := Lib.hid (by simpa using h)
   cases hf : fitsB pl 2 <;> by_cases hm : tg % 2 = 0 <;> by_cases hl : tg < 1600
   all_goals
    have HF := Lib.hid hf
    have HE : Hid (tagB tg pl = (inB tg 0 1598 && (decide (tg % 2 = 0) && fitsB pl 2))) := Lib.hid (by rw [Bool.eq_iff_iff]; simp [tagB, inB, fitsB]; omega)
    clear hf
    go_enter Tryd.func24, Tryd.ntmps24
    go_wp2_with (first | (go_at_call 12; refine (isTagged_any nm k at_ sz tu tg pl _).mono ?_; rintro e w1 ⟨rfl, hb1⟩; rw [HD.out]; have hk2 := kept7 (heap_alloc_new w _) hb1; obtain ⟨c0, c1, c2, c3, c4, c5, c6⟩ := cells7 hk2; clear hk2) | (go_at_call 29; refine (fitsBytes_any pl 2 _ (.inr (.inl rfl)) hp).mono ?_; rintro e w' ⟨rfl, rfl⟩; rw [HF.out]))
    go_ret
    refine ⟨?_, ((Below.refl w.heap.size w).alloc (Nat.le_refl _) _).trans (hb1.mono (by simp))⟩
    rw [HE.out, HF.out]
    exact ret_bool (by simp [inB]; try omega)
 · have HD : Hid (decide (0 ≤ tg) = false) := Lib.hid (by simpa using h)
   have HE : Hid (tagB tg pl = decide (tg = -1 ∧ pl = 0)) := Lib.hid (by rw [Bool.eq_iff_iff]; simp [tagB, inB]; omega)
   by_cases ht : tg = -1
   · subst ht
     go_enter Tryd.func24, Tryd.ntmps24
     go_wp2_with (first | (go_at_call 12; refine (isTagged_any nm k at_ sz tu (-1) pl _).mono ?_; rintro e w1 ⟨rfl, hb1⟩; rw [HD.out]; have hk2 := kept7 (heap_alloc_new w _) hb1; obtain ⟨c0, c1, c2, c3, c4, c5, c6⟩ := cells7 hk2; clear hk2))
     go_ret
     refine ⟨?_, ((Below.refl w.heap.size w).alloc (Nat.le_refl _) _).trans (hb1.mono (by simp))⟩
     rw [HE.out]
     exact ret_bool (by rw [Bool.eq_iff_iff]; simp)
   · have hn : (tg == -1) = false := by simpa using ht
     have HT := Lib.hid ht
     clear ht
     go_enter Tryd.func24, Tryd.ntmps24
     go_wp2_with (first | (go_at_call 12; refine (isTagged_any nm k at_ sz tu tg pl _).mono ?_; rintro e w1 ⟨rfl, hb1⟩; rw [HD.out]; have hk2 := kept7 (heap_alloc_new w _) hb1; obtain ⟨c0, c1, c2, c3, c4, c5, c6⟩ := cells7 hk2; clear hk2))
     go_ret
     refine ⟨?_, ((Below.refl w.heap.size w).alloc (Nat.le_refl _) _).trans (hb1.mono (by simp))⟩
     rw [HE.out]
     exact ret_bool (by simp [HT.out])
theorem leavesTag_any (nm : ByteArray) (k at_ sz tu tg pl : Int) (x z : Int) (w : World) (h1 : 0 ≤ x ∧ x ≤ 100000) (h2 : 0 ≤ z ∧ z ≤ 8) (h3 : tg ≤ 100000) :
 Calls Tryd.prog 30 #[accV nm k at_ sz tu tg pl, .int .i64 x, .int .i64 z] w fun e w' => e = .returned (.bool (apartB x z tg)) ∧ Below w.heap.size w w' := by
 unfold accV
 by_cases h : 0 ≤ tg
 · have HD : Hid (decide (0 ≤ tg) = true) := Lib.hid (by simpa using h)
   by_cases h5 : x + z ≤ tg
   all_goals
    have HE : Hid (apartB x z tg = (decide (x + z ≤ tg) || decide (tg + 2 ≤ x))) := Lib.hid (by rw [Bool.eq_iff_iff]; simp [apartB]; omega)
    go_enter Tryd.func30, Tryd.ntmps30
    go_wp2_with (first | (go_at_call 12; refine (isTagged_any nm k at_ sz tu tg pl _).mono ?_; rintro e w1 ⟨rfl, hb1⟩; rw [HD.out]; have hk2 := kept7 (heap_alloc_new w _) hb1; obtain ⟨c0, c1, c2, c3, c4, c5, c6⟩ := cells7 hk2; clear hk2))
    go_ret
    refine ⟨?_, ((Below.refl w.heap.size w).alloc (Nat.le_refl _) _).trans (hb1.mono (by simp))⟩
    rw [HE.out]
    exact ret_bool (by simp [h5])
 · have HD : Hid (decide (0 ≤ tg) = false) := Lib.hid (by simpa using h)
   have HE : Hid (apartB x z tg = true) := Lib.hid (by simp [apartB]; omega)
   go_enter Tryd.func30, Tryd.ntmps30
   go_wp2_with (first | (go_at_call 12; refine (isTagged_any nm k at_ sz tu tg pl _).mono ?_; rintro e w1 ⟨rfl, hb1⟩; rw [HD.out]; have hk2 := kept7 (heap_alloc_new w _) hb1; obtain ⟨c0, c1, c2, c3, c4, c5, c6⟩ := cells7 hk2; clear hk2))
   go_ret
   refine ⟨?_, ((Below.refl w.heap.size w).alloc (Nat.le_refl _) _).trans (hb1.mono (by simp))⟩
   rw [HE.out]
   rfl
theorem partsOk_1 (nm : ByteArray) (at_ sz tu tg pl : Int) (w : World) (h1 : 0 ≤ at_ ∧ at_ < 12800) (h3 : tg ≤ 100000) :
 Calls Tryd.prog 25 #[accV nm 1 at_ sz tu tg pl] w fun e w' => e = .returned (.bool (partsB 1 at_ sz tu tg)) ∧ Below w.heap.size w w' := by
 unfold accV
 have HE : Hid (partsB 1 at_ sz tu tg = (withB tu 2 && (decide (sz = 0) && apartB (at_ / 8) 1 tg))) := Lib.hid (by
  have e : inB tu 0 1 = withB tu 2 := by rw [Bool.eq_iff_iff]; simp [inB, withB]; omega
  unfold partsB
  rw [if_pos rfl, e]
  cases withB tu 2 <;> cases decide (sz = 0) <;> rfl)
 cases hw : withB tu 2
 · have HW := Lib.hid hw
   clear hw
   go_enter Tryd.func25, Tryd.ntmps25
   go_wp2_with (first | (go_at_call 23; refine (within_any _ _ _).mono ?_; rintro e w' ⟨rfl, rfl⟩; rw [HW.out]))
   go_ret
   exact ⟨by rw [HE.out, HW.out]; rfl, (Below.refl _ _).alloc (Nat.le_refl _) _⟩
 by_cases hz : sz = 0
 · subst hz
   cases ha : apartB (at_ / 8) 1 tg
   all_goals
    have HW := Lib.hid hw
    have HA := Lib.hid ha
    clear hw ha
    go_enter Tryd.func25, Tryd.ntmps25
    go_wp2_with (first | (go_at_call 23; refine (within_any _ _ _).mono ?_; rintro e w' ⟨rfl, rfl⟩; rw [HW.out]) | (go_at_call 30; refine (leavesTag_any nm 1 at_ 0 tu tg pl _ _ _ (by omega) (by omega) (by omega)).mono ?_; rintro e w1 ⟨rfl, hb1⟩; rw [HA.out]))
    go_ret
    refine ⟨?_, ((Below.refl w.heap.size w).alloc (Nat.le_refl _) _).trans (hb1.mono (by simp))⟩
    rw [HE.out, HW.out, HA.out]
    rfl
 · have hn : (sz == 0) = false := by simpa using hz
   have HW := Lib.hid hw
   have HZ := Lib.hid hz
   clear hw hz
   go_enter Tryd.func25, Tryd.ntmps25
   go_wp2_with (first | (go_at_call 23; refine (within_any _ _ _).mono ?_; rintro e w' ⟨rfl, rfl⟩; rw [HW.out]))
   go_ret
   refine ⟨?_, (Below.refl _ _).alloc (Nat.le_refl _) _⟩
   rw [HE.out, HW.out, decide_eq_false HZ.out]
   rfl
theorem partsOk_3 (nm : ByteArray) (at_ sz tu tg pl : Int) (w : World) :
 Calls Tryd.prog 25 #[accV nm 3 at_ sz tu tg pl] w fun e w' => e = .returned (.bool (partsB 3 at_ sz tu tg)) ∧ Below w.heap.size w w' := by
 unfold accV
 have HE : Hid (partsB 3 at_ sz tu tg = (decide (sz = 0) && decide (tu = 0))) := Lib.hid (by rw [Bool.eq_iff_iff]; simp [partsB])
 by_cases hz : sz = 0
 · subst hz
   go_enter Tryd.func25, Tryd.ntmps25
   go_wp2
   go_ret
   refine ⟨?_, (Below.refl _ _).alloc (Nat.le_refl _) _⟩
   rw [HE.out]
   exact ret_bool (by rw [Bool.eq_iff_iff]; simp)
 · have hn : (sz == 0) = false := by simpa using hz
   have HZ := Lib.hid hz
   clear hz
   go_enter Tryd.func25, Tryd.ntmps25
   go_wp2
   go_ret
   refine ⟨?_, (Below.refl _ _).alloc (Nat.le_refl _) _⟩
   rw [HE.out, decide_eq_false HZ.out]
   rfl
theorem partsOk_no (nm : ByteArray) (k at_ sz tu tg pl : Int) (w : World) (h1 : k ≠ 1) (h2 : k ≠ 2) (h3 : k ≠ 3) :
 Calls Tryd.prog 25 #[accV nm k at_ sz tu tg pl] w fun e w' => e = .returned (.bool (partsB k at_ sz tu tg)) ∧ Below w.heap.size w w' := by
 unfold accV
 have HE : Hid (partsB k at_ sz tu tg = false) := Lib.hid (by unfold partsB; rw [if_neg h1, if_neg h2, if_neg h3])
 have n1 : (k == 1) = false := by simpa using h1
 have n2 : (k == 2) = false := by simpa using h2
 have n3 : (k == 3) = false := by simpa using h3
 clear h1 h2 h3
 go_enter Tryd.func25, Tryd.ntmps25
 go_wp2
 go_ret
 exact ⟨by rw [HE.out]; rfl, (Below.refl _ _).alloc (Nat.le_refl _) _⟩
theorem partsOk_2 (nm : ByteArray) (at_ sz tu tg pl : Int) (w : World) (h1 : 0 ≤ at_ ∧ at_ < 12800) (h3 : tg ≤ 100000) (ht : i64b tu) :
 Calls Tryd.prog 25 #[accV nm 2 at_ sz tu tg pl] w fun e w' => e = .returned (.bool (partsB 2 at_ sz tu tg)) ∧ Below w.heap.size w w' := by
 unfold accV
 have HE : Hid (partsB 2 at_ sz tu tg = (widthB sz && (decide (at_ % sz = 0) && (fitsB tu sz && (numB tu && apartB at_ sz tg))))) := Lib.hid (by simp [partsB, sizeB, widthB])
 by_cases hz : sz = 1 ∨ sz = 2 ∨ sz = 4 ∨ sz = 8
 · have HZ : Hid (sz = 1 ∨ sz = 2 ∨ sz = 4 ∨ sz = 8) := Lib.hid hz
   have hzb : 1 ≤ sz ∧ sz ≤ 8 := by omega
   obtain ⟨hz1, hz8⟩ := hzb
   have HW : Hid (widthB sz = true) := Lib.hid (by simpa [widthB] using hz)
   clear hz
   have hz0 : (sz == 0) = false := by simp; omega
   by_cases hm : at_ % sz = 0
   · have hm0 : (at_ % sz == 0) = true := by simpa using hm
     have HM := Lib.hid (decide_eq_true hm)
     clear hm
     cases hf : fitsB tu sz
     · have HF := Lib.hid hf
       clear hf
       go_enter Tryd.func25, Tryd.ntmps25
       go_wp2_with (first | (go_at_call 31; refine (isWidth_any _ _).mono ?_; rintro e w' ⟨rfl, rfl⟩; rw [HW.out]) | (go_at_call 29; refine (fitsBytes_any _ _ _ HZ.out ht).mono ?_; rintro e w' ⟨rfl, rfl⟩; rw [HF.out]))
       go_ret
       refine ⟨?_, (Below.refl _ _).alloc (Nat.le_refl _) _⟩
       rw [HE.out, HW.out, HM.out, HF.out]
       rfl
     · cases hn : numB tu
       · have HF := Lib.hid hf
         have HN := Lib.hid hn
         clear hf hn
         go_enter Tryd.func25, Tryd.ntmps25
         go_wp2_with (first | (go_at_call 31; refine (isWidth_any _ _).mono ?_; rintro e w' ⟨rfl, rfl⟩; rw [HW.out]) | (go_at_call 29; refine (fitsBytes_any _ _ _ HZ.out ht).mono ?_; rintro e w' ⟨rfl, rfl⟩; rw [HF.out]) | (go_at_call 32; refine (hasFigures_any _ _).mono ?_; rintro e w' ⟨rfl, rfl⟩; rw [HN.out]))
         go_ret
         refine ⟨?_, (Below.refl _ _).alloc (Nat.le_refl _) _⟩
         rw [HE.out, HW.out, HM.out, HF.out, HN.out]
         rfl
       · cases ha : apartB at_ sz tg
         all_goals
          have HF := Lib.hid hf
          have HN := Lib.hid hn
          have HA := Lib.hid ha
          clear hf hn ha
          go_enter Tryd.func25, Tryd.ntmps25
          go_wp2_with (first | (go_at_call 31; refine (isWidth_any _ _).mono ?_; rintro e w' ⟨rfl, rfl⟩; rw [HW.out]) | (go_at_call 29; refine (fitsBytes_any _ _ _ HZ.out ht).mono ?_; rintro e w' ⟨rfl, rfl⟩; rw [HF.out]) | (go_at_call 32; refine (hasFigures_any _ _).mono ?_; rintro e w' ⟨rfl, rfl⟩; rw [HN.out]) | (go_at_call 30; refine (leavesTag_any nm 2 at_ sz tu tg pl _ _ _ (by omega) (by omega) (by omega)).mono ?_; rintro e w1 ⟨rfl, hb1⟩; rw [HA.out]))
          go_ret
          refine ⟨?_, ((Below.refl w.heap.size w).alloc (Nat.le_refl _) _).trans (hb1.mono (by simp))⟩
          rw [HE.out, HW.out, HM.out, HF.out, HN.out, HA.out]
          rfl
   · have hm0 : (at_ % sz == 0) = false := by simpa using hm
     have HM := Lib.hid (decide_eq_false hm)
     clear hm
     go_enter Tryd.func25, Tryd.ntmps25
     go_wp2_with (first | (go_at_call 31; refine (isWidth_any _ _).mono ?_; rintro e w' ⟨rfl, rfl⟩; rw [HW.out]))
     go_ret
     refine ⟨?_, (Below.refl _ _).alloc (Nat.le_refl _) _⟩
     rw [HE.out, HW.out, HM.out]
     rfl
 · have HW : Hid (widthB sz = false) := Lib.hid (by simpa [widthB] using hz)
   clear hz
   go_enter Tryd.func25, Tryd.ntmps25
   go_wp2_with (first | (go_at_call 31; refine (isWidth_any _ _).mono ?_; rintro e w' ⟨rfl, rfl⟩; rw [HW.out]))
   go_ret
   refine ⟨?_, (Below.refl _ _).alloc (Nat.le_refl _) _⟩
   rw [HE.out, HW.out]
   rfl
theorem partsOk_any (nm : ByteArray) (k at_ sz tu tg pl : Int) (w : World) (h1 : 0 ≤ at_ ∧ at_ < 12800) (h3 : tg ≤ 100000) (ht : i64b tu) :
 Calls Tryd.prog 25 #[accV nm k at_ sz tu tg pl] w fun e w' => e = .returned (.bool (partsB k at_ sz tu tg)) ∧ Below w.heap.size w w' := by
 by_cases k1 : k = 1
 · subst k1; exact partsOk_1 _ _ _ _ _ _ _ h1 h3
 by_cases k2 : k = 2
 · subst k2; exact partsOk_2 _ _ _ _ _ _ _ h1 h3 ht
 by_cases k3 : k = 3
 · subst k3; exact partsOk_3 _ _ _ _ _ _ _
 exact partsOk_no _ _ _ _ _ _ _ _ k1 k2 k3
def decB (t : Int) : ByteArray := ⟨(Lib.itoa t).toArray⟩
theorem decB_size {t : Int} (h : -1000000000000000000 ≤ t ∧ t ≤ 1000000000000000000) : (decB t).size ≤ 21 := Lib.itoa_length_le t (by omega) (by omega)
theorem l12Text_3n (nm : ByteArray) (hs : nm.size ≤ 10) (at_ sz tu tg pl : Int) (h0 : 0 ≤ at_ ∧ at_ ≤ 12799) (ht : tg < 0) (w : World) :
 Calls Tryd.prog 9 #[accV nm 3 at_ sz tu tg pl] w fun e w' => e = .returned (.string (((nm ++ ⟨#[32, 105, 115, 32]⟩) ++ ⟨#[112, 111, 105, 110, 116, 101, 114, 32]⟩) ++ decB at_)) ∧ Below w.heap.size w w' := by
 have hge : ¬ 0 ≤ tg := by omega
 have hge2 : decide (0 ≤ tg) = false := by simp; omega
 have HB0 := Lib.hid ((Below.refl w.heap.size w).alloc (Nat.le_refl _) (.cells #[.string nm, .int .i64 3, .int .i64 at_, .int .i64 sz, .int .i64 tu, .int .i64 tg, .int .i64 pl] 26))
 have R0 := Lib.hid (heap_alloc_new w (.cells #[.string nm, .int .i64 3, .int .i64 at_, .int .i64 sz, .int .i64 tu, .int .i64 tg, .int .i64 pl] 26))
 have HD := Lib.hid (fun W => l1Dec_int at_ (by omega) W)
 have hd1 := decB_size (t := at_) (by omega)
 have HDE : Hid ((⟨(Lib.itoa at_).toArray⟩ : ByteArray) = decB at_) := Lib.hid rfl
 rw [HDE.out] at HD
 generalize decB at_ = D at *
 have h4 : (⟨#[32, 105, 115, 32]⟩ : ByteArray).size = 4 := rfl
 have h8 : (⟨#[112, 111, 105, 110, 116, 101, 114, 32]⟩ : ByteArray).size = 8 := rfl
 obtain ⟨a0, a1, a2, a3, a4, a5, a6⟩ := cells7 R0.out
 unfold accV
 clear ht h0
 go_enter Tryd.func9, Tryd.ntmps9
 go_wp2_with fail
 refine (HD.out _).mono ?_
 rintro e w1 ⟨rfl, hb1⟩
 have hr1 := kept7 R0.out hb1
 have HB1 := Lib.hid (HB0.out.trans (hb1.mono HB0.out.size))
 clear hb1 a0 a1 a2 a3 a4 a5 a6
 obtain ⟨a0, a1, a2, a3, a4, a5, a6⟩ := cells7 hr1
 clear hr1
 go_wp2
 go_ret
 exact ⟨rfl, HB1.out⟩
open Go.RowKit Go.Deep
theorem l12Text_1n (nm : ByteArray) (hs : nm.size ≤ 10) (at_ sz tu tg pl : Int) (h0 : 0 ≤ at_ ∧ at_ ≤ 12799) (hz : 0 ≤ sz ∧ sz ≤ 8) (hu : -1000000000000000000 ≤ tu ∧ tu ≤ 1000000000000000000) (ht : tg < 0) (w : World) :
 Calls Tryd.prog 9 #[accV nm 1 at_ sz tu tg pl] w fun e w' => e = .returned (.string (((((nm ++ ⟨#[32, 105, 115, 32]⟩) ++ ⟨#[98, 105, 116, 32]⟩) ++ decB at_) ++ ⟨#[32, 116, 117, 114, 110, 101, 100, 32]⟩) ++ decB tu)) ∧ Below w.heap.size w w' := by
 have hge : ¬ 0 ≤ tg := by omega
 have hge2 : decide (0 ≤ tg) = false := by simp; omega
 have HB0 := Lib.hid ((Below.refl w.heap.size w).alloc (Nat.le_refl _) (.cells #[.string nm, .int .i64 1, .int .i64 at_, .int .i64 sz, .int .i64 tu, .int .i64 tg, .int .i64 pl] 26))
 have R0 := Lib.hid (heap_alloc_new w (.cells #[.string nm, .int .i64 1, .int .i64 at_, .int .i64 sz, .int .i64 tu, .int .i64 tg, .int .i64 pl] 26))
 have HD0 := Lib.hid (fun W => l1Dec_int at_ (by omega) W)
 have hd0 := decB_size (t := at_) (by omega)
 have HDE0 : Hid ((⟨(Lib.itoa at_).toArray⟩ : ByteArray) = decB at_) := Lib.hid rfl
 rw [HDE0.out] at HD0
 have HD1 := Lib.hid (fun W => l1Dec_int tu (by omega) W)
 have hd1 := decB_size (t := tu) (by omega)
 have HDE1 : Hid ((⟨(Lib.itoa tu).toArray⟩ : ByteArray) = decB tu) := Lib.hid rfl
 rw [HDE1.out] at HD1
 generalize decB at_ = D0 at *
 generalize decB tu = D1 at *
 have h4 : (⟨#[32, 105, 115, 32]⟩ : ByteArray).size = 4 := rfl
 have g0 : (⟨#[98, 105, 116, 32]⟩ : ByteArray).size = 4 := rfl
 have g1 : (⟨#[32, 116, 117, 114, 110, 101, 100, 32]⟩ : ByteArray).size = 8 := rfl
 obtain ⟨a0, a1, a2, a3, a4, a5, a6⟩ := cells7 R0.out
 unfold accV
 clear ht h0 hz hu
 go_enter Tryd.func9, Tryd.ntmps9
 go_wp2_with fail
 generalize w.alloc (.cells #[.string nm, .int .i64 1, .int .i64 at_, .int .i64 sz, .int .i64 tu, .int .i64 tg, .int .i64 pl] 26) = W at *
 clear a0 a1 a2 a3 a4 a5 a6
 have HDR : Hid (Below W.heap.size W W.drew) := Lib.hid ⟨rfl, rfl, rfl, Nat.le_refl _, fun _ _ => rfl⟩
 refine wp_region_held_drew (S := (fun V => V.heap[w.heap.size]? = some (.cells #[.string nm, .int .i64 1, .int .i64 at_, .int .i64 sz, .int .i64 tu, .int .i64 tg, .int .i64 pl] 26 (0, 0)))) (by kernel_rfl) ?_ (fun hH0 => ?_)
 · exact R0.out
 have hC := HDR.out
 have hHo := hH0
 clear hH0
 have u0 := R0.out
 refine wpAnyH_take (i := 0) (v := ?_) rfl (by kernel_rfl) (by kernel_rfl) (by kernel_rfl) (fun _ _ _ h => h) (Or.inl ⟨by rfl, ?_⟩) (by assumption) ?_
 rotate_left
 · intro w hSw
   (try dsimp only at hSw)
   obtain ⟨s0, s1, s2, s3, s4, s5, s6⟩ := cells7 hSw
   go_simp
   try with_reducible rfl
 try simp only [List.getElem_toArray, List.getElem_cons_succ, List.getElem_cons_zero, Act.put, List.setIfInBounds_toArray, List.set_cons_zero, List.set_cons_succ]
 refine wpAnyH_take (i := 1) (v := .string ((nm ++ ⟨#[32, 105, 115, 32]⟩) ++ ⟨#[98, 105, 116, 32]⟩)) rfl (by kernel_rfl) (by kernel_rfl) (by kernel_rfl) (fun _ _ _ h => h) (Or.inl ⟨by rfl, ?_⟩) (by assumption) ?_
 · intro w hSw
   go_simp
   try omega
 try simp only [List.getElem_toArray, List.getElem_cons_succ, List.getElem_cons_zero, Act.put, List.setIfInBounds_toArray, List.set_cons_zero, List.set_cons_succ]
 refine wpAnyH_take (i := 2) (v := ?_) rfl (by kernel_rfl) (by kernel_rfl) (by kernel_rfl) (fun _ _ _ h => h) (Or.inl ⟨by rfl, ?_⟩) (by assumption) ?_
 rotate_left
 · intro w hSw
   (try dsimp only at hSw)
   obtain ⟨s0, s1, s2, s3, s4, s5, s6⟩ := cells7 hSw
   go_simp
   try with_reducible rfl
 try simp only [List.getElem_toArray, List.getElem_cons_succ, List.getElem_cons_zero, Act.put, List.setIfInBounds_toArray, List.set_cons_zero, List.set_cons_succ]
 refine wpAnyH_take (i := 3) (v := ?_) rfl (by kernel_rfl) (by kernel_rfl) (by kernel_rfl) (fun _ _ _ h => h) (Or.inl ⟨by rfl, ?_⟩) (by assumption) ?_
 rotate_left
 · intro w hSw
   (try dsimp only at hSw)
   obtain ⟨s0, s1, s2, s3, s4, s5, s6⟩ := cells7 hSw
   go_simp
   try with_reducible rfl
 try simp only [List.getElem_toArray, List.getElem_cons_succ, List.getElem_cons_zero, Act.put, List.setIfInBounds_toArray, List.set_cons_zero, List.set_cons_succ]
 refine wpAnyH_take (i := 7) (v := ?_) rfl (by kernel_rfl) (by kernel_rfl) (by kernel_rfl) (fun _ _ _ h => h) (Or.inl ⟨by rfl, ?_⟩) (by assumption) ?_
 rotate_left
 · intro w hSw
   (try dsimp only at hSw)
   obtain ⟨s0, s1, s2, s3, s4, s5, s6⟩ := cells7 hSw
   go_simp
   try with_reducible rfl
 try simp only [List.getElem_toArray, List.getElem_cons_succ, List.getElem_cons_zero, Act.put, List.setIfInBounds_toArray, List.set_cons_zero, List.set_cons_succ]
 refine wpAnyH_take (i := 8) (v := ?_) rfl (by kernel_rfl) (by kernel_rfl) (by kernel_rfl) (fun _ _ _ h => h) (Or.inl ⟨by rfl, ?_⟩) (by assumption) ?_
 rotate_left
 · intro w hSw
   (try dsimp only at hSw)
   obtain ⟨s0, s1, s2, s3, s4, s5, s6⟩ := cells7 hSw
   go_simp
   try with_reducible rfl
 try simp only [List.getElem_toArray, List.getElem_cons_succ, List.getElem_cons_zero, Act.put, List.setIfInBounds_toArray, List.set_cons_zero, List.set_cons_succ]
 refine wpAnyH_ready (rs := [4]) (by kernel_rfl) (by simp) ?_
 refine AllReadyH.cons rfl (fun K hK => ?_) AllReadyH.nil
 go_simp
 go_at_call 21
 refine (HD0.out _).mono ?_
 rintro e w2 ⟨rfl, hb3⟩
 have hC' := hC.trans (hb3.mono hC.size)
 have v0 := (hb3.block _ (row_lt u0)).trans u0
 clear hb3 hC u0
 go_wp2_with fail
 refine hK.out _ _ v0 (fun hHn => ?_)
 clear hK K hHo
 have hHo := hHn
 clear hHn
 have u0 := v0
 have hC := hC'
 clear v0 hC'
 try simp only [List.getElem_toArray, List.getElem_cons_succ, List.getElem_cons_zero, Act.put, List.setIfInBounds_toArray, List.set_cons_zero, List.set_cons_succ]
 refine wpAnyH_take (i := 5) (v := .string (((nm ++ ⟨#[32, 105, 115, 32]⟩) ++ ⟨#[98, 105, 116, 32]⟩) ++ D0)) rfl (by kernel_rfl) (by kernel_rfl) (by kernel_rfl) (fun _ _ _ h => h) (Or.inl ⟨by rfl, ?_⟩) (by assumption) ?_
 · intro w hSw
   go_simp
   try omega
 try simp only [List.getElem_toArray, List.getElem_cons_succ, List.getElem_cons_zero, Act.put, List.setIfInBounds_toArray, List.set_cons_zero, List.set_cons_succ]
 refine wpAnyH_take (i := 6) (v := .string ((((nm ++ ⟨#[32, 105, 115, 32]⟩) ++ ⟨#[98, 105, 116, 32]⟩) ++ D0) ++ ⟨#[32, 116, 117, 114, 110, 101, 100, 32]⟩)) rfl (by kernel_rfl) (by kernel_rfl) (by kernel_rfl) (fun _ _ _ h => h) (Or.inl ⟨by rfl, ?_⟩) (by assumption) ?_
 · intro w hSw
   go_simp
   try omega
 try simp only [List.getElem_toArray, List.getElem_cons_succ, List.getElem_cons_zero, Act.put, List.setIfInBounds_toArray, List.set_cons_zero, List.set_cons_succ]
 refine wpAnyH_ready (rs := [9]) (by kernel_rfl) (by simp) ?_
 refine AllReadyH.cons rfl (fun K hK => ?_) AllReadyH.nil
 go_simp
 go_at_call 21
 refine (HD1.out _).mono ?_
 rintro e w3 ⟨rfl, hb3⟩
 have hC' := hC.trans (hb3.mono hC.size)
 have v0 := (hb3.block _ (row_lt u0)).trans u0
 clear hb3 hC u0
 go_wp2_with fail
 refine hK.out _ _ v0 (fun hHn => ?_)
 clear hK K hHo
 have hHo := hHn
 clear hHn
 have u0 := v0
 have hC := hC'
 clear v0 hC'
 try simp only [List.getElem_toArray, List.getElem_cons_succ, List.getElem_cons_zero, Act.put, List.setIfInBounds_toArray, List.set_cons_zero, List.set_cons_succ]
 refine wpAnyH_take (i := 10) (v := .string (((((nm ++ ⟨#[32, 105, 115, 32]⟩) ++ ⟨#[98, 105, 116, 32]⟩) ++ D0) ++ ⟨#[32, 116, 117, 114, 110, 101, 100, 32]⟩) ++ D1)) rfl (by kernel_rfl) (by kernel_rfl) (by kernel_rfl) (fun _ _ _ h => h) (Or.inl ⟨by rfl, ?_⟩) (by assumption) ?_
 · intro w hSw
   go_simp
   try omega
 try simp only [List.getElem_toArray, List.getElem_cons_succ, List.getElem_cons_zero, Act.put, List.setIfInBounds_toArray, List.set_cons_zero, List.set_cons_succ]
 refine wpAnyH_take (i := 11) (v := ?_) rfl (by kernel_rfl) (by kernel_rfl) (by kernel_rfl) (fun _ _ _ h => h) (Or.inl ⟨by rfl, ?_⟩) (by assumption) ?_
 rotate_left
 · intro w hSw
   (try dsimp only at hSw)
   obtain ⟨s0, s1, s2, s3, s4, s5, s6⟩ := cells7 hSw
   go_simp
   try with_reducible rfl
 try simp only [List.getElem_toArray, List.getElem_cons_succ, List.getElem_cons_zero, Act.put, List.setIfInBounds_toArray, List.set_cons_zero, List.set_cons_succ]
 refine wpAnyH_done (by kernel_rfl) ?_ _
 clear hHo
 have HB1 := Lib.hid (HB0.out.trans (hC.mono HB0.out.size))
 obtain ⟨a0, a1, a2, a3, a4, a5, a6⟩ := cells7 u0
 clear hC u0
 go_wp2
 go_ret
 exact ⟨rfl, HB1.out⟩
theorem l12Text_2n (nm : ByteArray) (hs : nm.size ≤ 10) (at_ sz tu tg pl : Int) (h0 : 0 ≤ at_ ∧ at_ ≤ 12799) (hz : 0 ≤ sz ∧ sz ≤ 8) (hu : -1000000000000000000 ≤ tu ∧ tu ≤ 1000000000000000000) (ht : tg < 0) (w : World) :
 Calls Tryd.prog 9 #[accV nm 2 at_ sz tu tg pl] w fun e w' => e = .returned (.string (((((((nm ++ ⟨#[32, 105, 115, 32]⟩) ++ ⟨#[98, 121, 116, 101, 115, 32]⟩) ++ decB at_) ++ ⟨#[32, 115, 105, 122, 101, 32]⟩) ++ decB sz) ++ ⟨#[32, 116, 117, 114, 110, 101, 100, 32]⟩) ++ decB tu)) ∧ Below w.heap.size w w' := by
 have hge : ¬ 0 ≤ tg := by omega
 have hge2 : decide (0 ≤ tg) = false := by simp; omega
 have HB0 := Lib.hid ((Below.refl w.heap.size w).alloc (Nat.le_refl _) (.cells #[.string nm, .int .i64 2, .int .i64 at_, .int .i64 sz, .int .i64 tu, .int .i64 tg, .int .i64 pl] 26))
 have R0 := Lib.hid (heap_alloc_new w (.cells #[.string nm, .int .i64 2, .int .i64 at_, .int .i64 sz, .int .i64 tu, .int .i64 tg, .int .i64 pl] 26))
 have HD0 := Lib.hid (fun W => l1Dec_int at_ (by omega) W)
 have hd0 := decB_size (t := at_) (by omega)
 have HDE0 : Hid ((⟨(Lib.itoa at_).toArray⟩ : ByteArray) = decB at_) := Lib.hid rfl
 rw [HDE0.out] at HD0
 have HD1 := Lib.hid (fun W => l1Dec_int sz (by omega) W)
 have hd1 := decB_size (t := sz) (by omega)
 have HDE1 : Hid ((⟨(Lib.itoa sz).toArray⟩ : ByteArray) = decB sz) := Lib.hid rfl
 rw [HDE1.out] at HD1
 have HD2 := Lib.hid (fun W => l1Dec_int tu (by omega) W)
 have hd2 := decB_size (t := tu) (by omega)
 have HDE2 : Hid ((⟨(Lib.itoa tu).toArray⟩ : ByteArray) = decB tu) := Lib.hid rfl
 rw [HDE2.out] at HD2
 generalize decB at_ = D0 at *
 generalize decB sz = D1 at *
 generalize decB tu = D2 at *
 have h4 : (⟨#[32, 105, 115, 32]⟩ : ByteArray).size = 4 := rfl
 have g0 : (⟨#[98, 121, 116, 101, 115, 32]⟩ : ByteArray).size = 6 := rfl
 have g1 : (⟨#[32, 115, 105, 122, 101, 32]⟩ : ByteArray).size = 6 := rfl
 have g2 : (⟨#[32, 116, 117, 114, 110, 101, 100, 32]⟩ : ByteArray).size = 8 := rfl
 obtain ⟨a0, a1, a2, a3, a4, a5, a6⟩ := cells7 R0.out
 unfold accV
 clear ht h0 hz hu
 go_enter Tryd.func9, Tryd.ntmps9
 go_wp2_with fail
 generalize w.alloc (.cells #[.string nm, .int .i64 2, .int .i64 at_, .int .i64 sz, .int .i64 tu, .int .i64 tg, .int .i64 pl] 26) = W at *
 clear a0 a1 a2 a3 a4 a5 a6
 have HDR : Hid (Below W.heap.size W W.drew) := Lib.hid ⟨rfl, rfl, rfl, Nat.le_refl _, fun _ _ => rfl⟩
 refine wp_region_held_drew (S := (fun V => V.heap[w.heap.size]? = some (.cells #[.string nm, .int .i64 2, .int .i64 at_, .int .i64 sz, .int .i64 tu, .int .i64 tg, .int .i64 pl] 26 (0, 0)))) (by kernel_rfl) ?_ (fun hH0 => ?_)
 · exact R0.out
 have hC := HDR.out
 have hHo := hH0
 clear hH0
 have u0 := R0.out
 refine wpAnyH_take (i := 0) (v := ?_) rfl (by kernel_rfl) (by kernel_rfl) (by kernel_rfl) (fun _ _ _ h => h) (Or.inl ⟨by rfl, ?_⟩) (by assumption) ?_
 rotate_left
 · intro w hSw
   (try dsimp only at hSw)
   obtain ⟨s0, s1, s2, s3, s4, s5, s6⟩ := cells7 hSw
   go_simp
   try with_reducible rfl
 try simp only [List.getElem_toArray, List.getElem_cons_succ, List.getElem_cons_zero, Act.put, List.setIfInBounds_toArray, List.set_cons_zero, List.set_cons_succ]
 refine wpAnyH_take (i := 1) (v := .string ((nm ++ ⟨#[32, 105, 115, 32]⟩) ++ ⟨#[98, 121, 116, 101, 115, 32]⟩)) rfl (by kernel_rfl) (by kernel_rfl) (by kernel_rfl) (fun _ _ _ h => h) (Or.inl ⟨by rfl, ?_⟩) (by assumption) ?_
 · intro w hSw
   go_simp
   try omega
 try simp only [List.getElem_toArray, List.getElem_cons_succ, List.getElem_cons_zero, Act.put, List.setIfInBounds_toArray, List.set_cons_zero, List.set_cons_succ]
 refine wpAnyH_take (i := 2) (v := ?_) rfl (by kernel_rfl) (by kernel_rfl) (by kernel_rfl) (fun _ _ _ h => h) (Or.inl ⟨by rfl, ?_⟩) (by assumption) ?_
 rotate_left
 · intro w hSw
   (try dsimp only at hSw)
   obtain ⟨s0, s1, s2, s3, s4, s5, s6⟩ := cells7 hSw
   go_simp
   try with_reducible rfl
 try simp only [List.getElem_toArray, List.getElem_cons_succ, List.getElem_cons_zero, Act.put, List.setIfInBounds_toArray, List.set_cons_zero, List.set_cons_succ]
 refine wpAnyH_take (i := 3) (v := ?_) rfl (by kernel_rfl) (by kernel_rfl) (by kernel_rfl) (fun _ _ _ h => h) (Or.inl ⟨by rfl, ?_⟩) (by assumption) ?_
 rotate_left
 · intro w hSw
   (try dsimp only at hSw)
   obtain ⟨s0, s1, s2, s3, s4, s5, s6⟩ := cells7 hSw
   go_simp
   try with_reducible rfl
 try simp only [List.getElem_toArray, List.getElem_cons_succ, List.getElem_cons_zero, Act.put, List.setIfInBounds_toArray, List.set_cons_zero, List.set_cons_succ]
 refine wpAnyH_take (i := 7) (v := ?_) rfl (by kernel_rfl) (by kernel_rfl) (by kernel_rfl) (fun _ _ _ h => h) (Or.inl ⟨by rfl, ?_⟩) (by assumption) ?_
 rotate_left
 · intro w hSw
   (try dsimp only at hSw)
   obtain ⟨s0, s1, s2, s3, s4, s5, s6⟩ := cells7 hSw
   go_simp
   try with_reducible rfl
 try simp only [List.getElem_toArray, List.getElem_cons_succ, List.getElem_cons_zero, Act.put, List.setIfInBounds_toArray, List.set_cons_zero, List.set_cons_succ]
 refine wpAnyH_take (i := 8) (v := ?_) rfl (by kernel_rfl) (by kernel_rfl) (by kernel_rfl) (fun _ _ _ h => h) (Or.inl ⟨by rfl, ?_⟩) (by assumption) ?_
 rotate_left
 · intro w hSw
   (try dsimp only at hSw)
   obtain ⟨s0, s1, s2, s3, s4, s5, s6⟩ := cells7 hSw
   go_simp
   try with_reducible rfl
 try simp only [List.getElem_toArray, List.getElem_cons_succ, List.getElem_cons_zero, Act.put, List.setIfInBounds_toArray, List.set_cons_zero, List.set_cons_succ]
 refine wpAnyH_take (i := 12) (v := ?_) rfl (by kernel_rfl) (by kernel_rfl) (by kernel_rfl) (fun _ _ _ h => h) (Or.inl ⟨by rfl, ?_⟩) (by assumption) ?_
 rotate_left
 · intro w hSw
   (try dsimp only at hSw)
   obtain ⟨s0, s1, s2, s3, s4, s5, s6⟩ := cells7 hSw
   go_simp
   try with_reducible rfl
 try simp only [List.getElem_toArray, List.getElem_cons_succ, List.getElem_cons_zero, Act.put, List.setIfInBounds_toArray, List.set_cons_zero, List.set_cons_succ]
 refine wpAnyH_take (i := 13) (v := ?_) rfl (by kernel_rfl) (by kernel_rfl) (by kernel_rfl) (fun _ _ _ h => h) (Or.inl ⟨by rfl, ?_⟩) (by assumption) ?_
 rotate_left
 · intro w hSw
   (try dsimp only at hSw)
   obtain ⟨s0, s1, s2, s3, s4, s5, s6⟩ := cells7 hSw
   go_simp
   try with_reducible rfl
 try simp only [List.getElem_toArray, List.getElem_cons_succ, List.getElem_cons_zero, Act.put, List.setIfInBounds_toArray, List.set_cons_zero, List.set_cons_succ]
 refine wpAnyH_ready (rs := [4]) (by kernel_rfl) (by simp) ?_
 refine AllReadyH.cons rfl (fun K hK => ?_) AllReadyH.nil
 go_simp
 go_at_call 21
 refine (HD0.out _).mono ?_
 rintro e w2 ⟨rfl, hb3⟩
 have hC' := hC.trans (hb3.mono hC.size)
 have v0 := (hb3.block _ (row_lt u0)).trans u0
 clear hb3 hC u0
 go_wp2_with fail
 refine hK.out _ _ v0 (fun hHn => ?_)
 clear hK K hHo
 have hHo := hHn
 clear hHn
 have u0 := v0
 have hC := hC'
 clear v0 hC'
 try simp only [List.getElem_toArray, List.getElem_cons_succ, List.getElem_cons_zero, Act.put, List.setIfInBounds_toArray, List.set_cons_zero, List.set_cons_succ]
 refine wpAnyH_take (i := 5) (v := .string (((nm ++ ⟨#[32, 105, 115, 32]⟩) ++ ⟨#[98, 121, 116, 101, 115, 32]⟩) ++ D0)) rfl (by kernel_rfl) (by kernel_rfl) (by kernel_rfl) (fun _ _ _ h => h) (Or.inl ⟨by rfl, ?_⟩) (by assumption) ?_
 · intro w hSw
   go_simp
   try omega
 try simp only [List.getElem_toArray, List.getElem_cons_succ, List.getElem_cons_zero, Act.put, List.setIfInBounds_toArray, List.set_cons_zero, List.set_cons_succ]
 refine wpAnyH_take (i := 6) (v := .string ((((nm ++ ⟨#[32, 105, 115, 32]⟩) ++ ⟨#[98, 121, 116, 101, 115, 32]⟩) ++ D0) ++ ⟨#[32, 115, 105, 122, 101, 32]⟩)) rfl (by kernel_rfl) (by kernel_rfl) (by kernel_rfl) (fun _ _ _ h => h) (Or.inl ⟨by rfl, ?_⟩) (by assumption) ?_
 · intro w hSw
   go_simp
   try omega
 try simp only [List.getElem_toArray, List.getElem_cons_succ, List.getElem_cons_zero, Act.put, List.setIfInBounds_toArray, List.set_cons_zero, List.set_cons_succ]
 refine wpAnyH_ready (rs := [9]) (by kernel_rfl) (by simp) ?_
 refine AllReadyH.cons rfl (fun K hK => ?_) AllReadyH.nil
 go_simp
 go_at_call 21
 refine (HD1.out _).mono ?_
 rintro e w3 ⟨rfl, hb3⟩
 have hC' := hC.trans (hb3.mono hC.size)
 have v0 := (hb3.block _ (row_lt u0)).trans u0
 clear hb3 hC u0
 go_wp2_with fail
 refine hK.out _ _ v0 (fun hHn => ?_)
 clear hK K hHo
 have hHo := hHn
 clear hHn
 have u0 := v0
 have hC := hC'
 clear v0 hC'
 try simp only [List.getElem_toArray, List.getElem_cons_succ, List.getElem_cons_zero, Act.put, List.setIfInBounds_toArray, List.set_cons_zero, List.set_cons_succ]
 refine wpAnyH_take (i := 10) (v := .string (((((nm ++ ⟨#[32, 105, 115, 32]⟩) ++ ⟨#[98, 121, 116, 101, 115, 32]⟩) ++ D0) ++ ⟨#[32, 115, 105, 122, 101, 32]⟩) ++ D1)) rfl (by kernel_rfl) (by kernel_rfl) (by kernel_rfl) (fun _ _ _ h => h) (Or.inl ⟨by rfl, ?_⟩) (by assumption) ?_
 · intro w hSw
   go_simp
   try omega
 try simp only [List.getElem_toArray, List.getElem_cons_succ, List.getElem_cons_zero, Act.put, List.setIfInBounds_toArray, List.set_cons_zero, List.set_cons_succ]
 refine wpAnyH_take (i := 11) (v := .string ((((((nm ++ ⟨#[32, 105, 115, 32]⟩) ++ ⟨#[98, 121, 116, 101, 115, 32]⟩) ++ D0) ++ ⟨#[32, 115, 105, 122, 101, 32]⟩) ++ D1) ++ ⟨#[32, 116, 117, 114, 110, 101, 100, 32]⟩)) rfl (by kernel_rfl) (by kernel_rfl) (by kernel_rfl) (fun _ _ _ h => h) (Or.inl ⟨by rfl, ?_⟩) (by assumption) ?_
 · intro w hSw
   go_simp
   try omega
 try simp only [List.getElem_toArray, List.getElem_cons_succ, List.getElem_cons_zero, Act.put, List.setIfInBounds_toArray, List.set_cons_zero, List.set_cons_succ]
 refine wpAnyH_ready (rs := [14]) (by kernel_rfl) (by simp) ?_
 refine AllReadyH.cons rfl (fun K hK => ?_) AllReadyH.nil
 go_simp
 go_at_call 21
 refine (HD2.out _).mono ?_
 rintro e w4 ⟨rfl, hb3⟩
 have hC' := hC.trans (hb3.mono hC.size)
 have v0 := (hb3.block _ (row_lt u0)).trans u0
 clear hb3 hC u0
 go_wp2_with fail
 refine hK.out _ _ v0 (fun hHn => ?_)
 clear hK K hHo
 have hHo := hHn
 clear hHn
 have u0 := v0
 have hC := hC'
 clear v0 hC'
 try simp only [List.getElem_toArray, List.getElem_cons_succ, List.getElem_cons_zero, Act.put, List.setIfInBounds_toArray, List.set_cons_zero, List.set_cons_succ]
 refine wpAnyH_take (i := 15) (v := .string (((((((nm ++ ⟨#[32, 105, 115, 32]⟩) ++ ⟨#[98, 121, 116, 101, 115, 32]⟩) ++ D0) ++ ⟨#[32, 115, 105, 122, 101, 32]⟩) ++ D1) ++ ⟨#[32, 116, 117, 114, 110, 101, 100, 32]⟩) ++ D2)) rfl (by kernel_rfl) (by kernel_rfl) (by kernel_rfl) (fun _ _ _ h => h) (Or.inl ⟨by rfl, ?_⟩) (by assumption) ?_
 · intro w hSw
   go_simp
   try omega
 try simp only [List.getElem_toArray, List.getElem_cons_succ, List.getElem_cons_zero, Act.put, List.setIfInBounds_toArray, List.set_cons_zero, List.set_cons_succ]
 refine wpAnyH_take (i := 16) (v := ?_) rfl (by kernel_rfl) (by kernel_rfl) (by kernel_rfl) (fun _ _ _ h => h) (Or.inl ⟨by rfl, ?_⟩) (by assumption) ?_
 rotate_left
 · intro w hSw
   (try dsimp only at hSw)
   obtain ⟨s0, s1, s2, s3, s4, s5, s6⟩ := cells7 hSw
   go_simp
   try with_reducible rfl
 try simp only [List.getElem_toArray, List.getElem_cons_succ, List.getElem_cons_zero, Act.put, List.setIfInBounds_toArray, List.set_cons_zero, List.set_cons_succ]
 refine wpAnyH_done (by kernel_rfl) ?_ _
 clear hHo
 have HB1 := Lib.hid (HB0.out.trans (hC.mono HB0.out.size))
 obtain ⟨a0, a1, a2, a3, a4, a5, a6⟩ := cells7 u0
 clear hC u0
 go_wp2
 go_ret
 exact ⟨rfl, HB1.out⟩
end Go.Proofs.YtfnecflkahmjoaaDoor
