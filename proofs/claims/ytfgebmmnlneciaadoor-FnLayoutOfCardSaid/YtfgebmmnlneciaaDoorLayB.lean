/- The two FieldsOk: both say whether all fields fit. -/
import Derived.Test.YtfgebmmnlneciaaDoorLayA
namespace Go.Proofs.YtfgebmmnlneciaaDoor
open Go.RowKit
theorem all_take_succ (l : List Fld) (k : Nat) (h : k < l.length) : (l.take (k + 1)).all fldOk = ((l.take k).all fldOk && fldOk l[k]) := by
  rw [List.take_succ_eq_append_getElem h, List.all_append]; simp
theorem all_false_of (l : List Fld) (k : Nat) (h : k < l.length) (hf : fldOk l[k] = false) : l.all fldOk = false := by
  rw [List.all_eq_false]
  exact ⟨l[k], List.getElem_mem h, by simp [hf]⟩
theorem fld_false1 {f : Fld} (h : inB f.size 1 6 = false) : fldOk f = false := by simp [fldOk, h]
theorem fld_false2 {f : Fld} (h : fitB f.size f.els = false) : fldOk f = false := by simp [fldOk, h]
theorem fld_true {f : Fld} (h : inB f.size 1 6 = true) (h2 : fitB f.size f.els = true) : fldOk f = true := by simp [fldOk, h, h2]
theorem flds_false {l : List Fld} (h : l.all fldOk = false) : fldsOk l = false := by simp [fldsOk, h]
theorem inB_out {n a b : Int} (h : inB n a b = true) : a ≤ n ∧ n ≤ b := by simpa [inB] using h
set_option maxHeartbeats 2000000 in
theorem specFieldsOk_any (A : Option Addr) (c : Nat) (l : List Fld) (w : World) (h : Flds w A l) (hl : l.length ≤ 10000000) :
    Calls Tryd.prog 25 #[.slice A l.length c] w fun e w' => e = .returned (.bool (fldsOk l)) ∧ Below w.heap.size w w' := by
  have HF := Lib.hid h
  clear h
  go_enter Tryd.func25, Tryd.ntmps25
  go_wp2
  go_loopw [3] (fun i wr => ∃ k : Nat, i = .int .i64 k ∧ k ≤ l.length ∧ Hid ((l.take k).all fldOk = true) ∧ Hid (Below w.heap.size w wr)) (fun i _ => l.length - (intOf i).toNat)
  case atStart => exact ⟨0, rfl, by omega, by exact Lib.hid rfl, by exact Lib.hid (Below.refl _ _)⟩
  case round =>
    obtain ⟨k, rfl, hk, HA, HB⟩ := hrel
    by_cases hlt : k < l.length
    · obtain ⟨x, rfl, hx⟩ := (HF.out.below HB.out).at_ hlt
      have HS := Lib.hid (all_take_succ l k hlt)
      have HFF := Lib.hid (all_false_of l k hlt)
      generalize l[k] = f at hx HS HFF
      obtain ⟨fs, fc, fe⟩ := f
      obtain ⟨c0, c1, c2⟩ := hx
      cases hs : inB fs 1 6 with
      | false =>
        have HX := Lib.hid (HFF.out (fld_false1 hs))
        go_wp2_with (go_at_call 35; go_must (refine (l1In_any _ _ _ _).mono ?_); rintro e w2 ⟨rfl, rfl⟩)
        go_ret
        exact ⟨ret_bool (flds_false HX.out).symm, HB.out.alloc HB.out.size _⟩
      | true =>
        have hs2 := inB_out hs
        cases hf : fitB fs fe with
        | false =>
          have HX := Lib.hid (HFF.out (fld_false2 hf))
          go_wp2_with (first | (go_at_call 35; go_must (refine (l1In_any _ _ _ _).mono ?_); rintro e w2 ⟨rfl, rfl⟩) | (go_at_call 42; go_must (refine (l7Fits_any _ _ _ hs2.1 hs2.2).mono ?_); rintro e w3 ⟨rfl, hb3⟩))
          go_ret
          exact ⟨ret_bool (flds_false HX.out).symm, (HB.out.alloc HB.out.size _).trans (hb3.mono (by have := HB.out.size; simp; omega))⟩
        | true =>
          have HX : Hid ((l.take (k + 1)).all fldOk = true) := by
            refine Lib.hid ?_
            rw [HS.out, HA.out, fld_true (f := ⟨fs, fc, fe⟩) hs hf]; rfl
          go_wp2_with (first | (go_at_call 35; go_must (refine (l1In_any _ _ _ _).mono ?_); rintro e w2 ⟨rfl, rfl⟩) | (go_at_call 42; go_must (refine (l7Fits_any _ _ _ hs2.1 hs2.2).mono ?_); rintro e w3 ⟨rfl, hb3⟩))
          go_roundw
          case rel => exact ⟨k + 1, by go_num, by omega, HX, Lib.hid ((HB.out.alloc HB.out.size _).trans (hb3.mono (by have := HB.out.size; simp; omega)))⟩
          case measure => simp [intOf]; omega
    · obtain rfl : k = l.length := by omega
      have HT : Hid (l.all fldOk = true) := by refine Lib.hid ?_; rw [← HA.out, List.take_of_length_le (Nat.le_refl _)]
      have HE : Hid (fldsOk l = decide ((l.length : Int) ≤ 12)) := by
        refine Lib.hid ?_
        unfold fldsOk
        rw [HT.out, Bool.true_and, Bool.eq_iff_iff]
        simp only [decide_eq_true_eq]
        omega
      go_wp2
      go_ret
      exact ⟨ret_bool HE.out.symm, HB.out⟩
set_option maxHeartbeats 2000000 in
theorem implFieldsOk_any (A : Option Addr) (c : Nat) (l : List Fld) (w : World) (h : Flds w A l) (hl : l.length ≤ 10000000) :
    Calls Tryd.prog 24 #[.slice A l.length c] w fun e w' => e = .returned (.bool (fldsOk l)) ∧ Below w.heap.size w w' := by
  have HF := Lib.hid h
  clear h
  by_cases h12 : 12 < l.length
  · have HX : Hid (fldsOk l = false) := by refine Lib.hid ?_; unfold fldsOk; rw [show decide (l.length ≤ 12) = false by simp; omega, Bool.and_false]
    go_enter Tryd.func24, Tryd.ntmps24
    go_wp2
    go_ret
    exact ⟨ret_bool HX.out.symm, Below.refl _ _⟩
  have hl12 : l.length ≤ 12 := by omega
  go_enter Tryd.func24, Tryd.ntmps24
  go_wp2
  go_loopw [10] (fun i wr => ∃ k : Nat, i = .int .i64 k ∧ k ≤ l.length ∧ Hid ((l.take k).all fldOk = true) ∧ Hid (Below w.heap.size w wr)) (fun i _ => l.length - (intOf i).toNat)
  case atStart => exact ⟨0, rfl, by omega, by exact Lib.hid rfl, by exact Lib.hid (Below.refl _ _)⟩
  case round =>
    obtain ⟨k, rfl, hk, HA, HB⟩ := hrel
    by_cases hlt : k < l.length
    · obtain ⟨x, rfl, hx⟩ := (HF.out.below HB.out).at_ hlt
      have HS := Lib.hid (all_take_succ l k hlt)
      have HFF := Lib.hid (all_false_of l k hlt)
      generalize l[k] = f at hx HS HFF
      obtain ⟨fs, fc, fe⟩ := f
      obtain ⟨c0, c1, c2⟩ := hx
      by_cases hs1 : fs < 1
      · have HX := Lib.hid (HFF.out (fld_false1 (by simp [inB]; omega)))
        go_wp2
        go_ret
        exact ⟨ret_bool (flds_false HX.out).symm, HB.out.alloc HB.out.size _⟩
      have hs1' : 1 ≤ fs := by omega
      by_cases hs6 : 6 < fs
      · have HX := Lib.hid (HFF.out (fld_false1 (by simp [inB]; omega)))
        go_wp2
        go_ret
        exact ⟨ret_bool (flds_false HX.out).symm, HB.out.alloc HB.out.size _⟩
      have hs6' : fs ≤ 6 := by omega
      clear hs1 hs6
      cases hf : fitB fs fe with
      | false =>
        have HX := Lib.hid (HFF.out (fld_false2 hf))
        go_wp2_with (go_at_call 41; go_must (refine (fitsSize_any _ _ _ hs1' hs6').mono ?_); rintro e w3 ⟨rfl, rfl⟩)
        go_ret
        exact ⟨ret_bool (flds_false HX.out).symm, HB.out.alloc HB.out.size _⟩
      | true =>
        have HX : Hid ((l.take (k + 1)).all fldOk = true) := by
          refine Lib.hid ?_
          rw [HS.out, HA.out, fld_true (f := ⟨fs, fc, fe⟩) (by simp [inB]; omega) hf]; rfl
        go_wp2_with (go_at_call 41; go_must (refine (fitsSize_any _ _ _ hs1' hs6').mono ?_); rintro e w3 ⟨rfl, rfl⟩)
        go_roundw
        case rel => exact ⟨k + 1, by go_num, by omega, HX, Lib.hid (HB.out.alloc HB.out.size _)⟩
        case measure => simp [intOf]; omega
    · obtain rfl : k = l.length := by omega
      have HE : Hid (fldsOk l = true) := by
        refine Lib.hid ?_
        unfold fldsOk
        rw [List.take_of_length_le (Nat.le_refl _)] at HA
        rw [HA.out, Bool.true_and]
        simpa using hl12
      go_wp2
      go_ret
      exact ⟨ret_bool HE.out.symm, HB.out⟩
end Go.Proofs.YtfgebmmnlneciaaDoor
