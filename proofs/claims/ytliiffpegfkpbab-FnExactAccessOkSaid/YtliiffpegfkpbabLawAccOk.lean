/- The law FnExactAccessOk walked. -/
import Derived.Test.YtliiffpegfkpbabAccOk
namespace Go.Proofs.Ytliiffpegfkpbab
open Go.RowKit
set_option maxHeartbeats 2000000 in
set_option maxRecDepth 100000 in
theorem implAccessOk_any (nm : ByteArray) (k at_ sz tu tg pl : Int) (w : World) (hs : nm.size ≤ maxLen) (ht : i64b tu) (hp : i64b pl) :
    Calls Try.prog 7 #[accV nm k at_ sz tu tg pl] w fun e w' => e = .returned (.bool (accB nm k at_ sz tu tg pl)) ∧ Below w.heap.size w w' := by
  unfold accV
  have HE : Hid (accB nm k at_ sz tu tg pl = (nameB nm && (withB at_ 12800 && (tagB tg pl && partsB k at_ sz tu tg)))) := Lib.hid (by
    have e : inB at_ 0 12799 = withB at_ 12800 := by rw [Bool.eq_iff_iff]; simp [inB, withB]; omega
    unfold accB
    rw [e]
    cases nameB nm <;> cases tagB tg pl <;> cases withB at_ 12800 <;> rfl)
  have HB0 := Lib.hid ((Below.refl w.heap.size w).alloc (Nat.le_refl _) (.cells #[.string nm, .int .i64 k, .int .i64 at_, .int .i64 sz, .int .i64 tu, .int .i64 tg, .int .i64 pl] 26))
  cases hn : nameB nm
  · have HN := Lib.hid hn
    clear hn
    go_enter Try.func7, Try.ntmps7
    go_wp2_with (first | (go_at_call 14; refine (isName_any _ _ hs).mono ?_; rintro e w1 ⟨rfl, hb1⟩; rw [HN.out]; have hk2 := kept7 (heap_alloc_new w _) hb1; obtain ⟨c0, c1, c2, c3, c4, c5, c6⟩ := cells7 hk2; clear hk2))
    go_ret
    exact ⟨by rw [HE.out, HN.out]; rfl, HB0.out.trans (hb1.mono (by simp))⟩
  cases hw : withB at_ 12800
  · have HN := Lib.hid hn
    have HW := Lib.hid hw
    clear hn hw
    go_enter Try.func7, Try.ntmps7
    go_wp2_with (first | (go_at_call 14; refine (isName_any _ _ hs).mono ?_; rintro e w1 ⟨rfl, hb1⟩; rw [HN.out]; have hk2 := kept7 (heap_alloc_new w _) hb1; obtain ⟨c0, c1, c2, c3, c4, c5, c6⟩ := cells7 hk2; clear hk2) | (go_at_call 15; refine (within_any _ _ _).mono ?_; rintro e w' ⟨rfl, rfl⟩; rw [HW.out]))
    go_ret
    exact ⟨by rw [HE.out, HN.out, HW.out]; rfl, HB0.out.trans (hb1.mono (by simp))⟩
  have HAT : Hid (0 ≤ at_ ∧ at_ < 12800) := Lib.hid (by simpa [withB] using hw)
  cases hg : tagB tg pl
  · have HN := Lib.hid hn
    have HW := Lib.hid hw
    have HG := Lib.hid hg
    clear hn hw hg
    go_enter Try.func7, Try.ntmps7
    go_wp2_with (first | (go_at_call 14; refine (isName_any _ _ hs).mono ?_; rintro e w1 ⟨rfl, hb1⟩; rw [HN.out]; have hk2 := kept7 (heap_alloc_new w _) hb1; have HK2 := Lib.hid hk2; obtain ⟨c0, c1, c2, c3, c4, c5, c6⟩ := cells7 hk2; clear hk2) | (go_at_call 15; refine (within_any _ _ _).mono ?_; rintro e w' ⟨rfl, rfl⟩; rw [HW.out]) | (go_at_call 16; refine (tagOk_any nm k at_ sz tu tg pl _ hp).mono ?_; rintro e w2 ⟨rfl, hb2⟩; rw [HG.out]; have hk3 := kept7 HK2.out hb2; obtain ⟨d0, d1, d2, d3, d4, d5, d6⟩ := cells7 hk3; clear hk3))
    go_ret
    have H1 := HB0.out.trans (hb1.mono (by simp))
    exact ⟨by rw [HE.out, HN.out, HW.out, HG.out]; rfl, H1.trans (hb2.mono H1.size)⟩
  have htg : tg ≤ 100000 := by
    simp [tagB, inB] at hg
    omega
  have HTG := Lib.hid htg
  clear htg
  cases hq : partsB k at_ sz tu tg
  all_goals
    have HN := Lib.hid hn
    have HW := Lib.hid hw
    have HG := Lib.hid hg
    have HQ := Lib.hid hq
    clear hn hw hg hq
    go_enter Try.func7, Try.ntmps7
    go_wp2_with (first | (go_at_call 14; refine (isName_any _ _ hs).mono ?_; rintro e w1 ⟨rfl, hb1⟩; rw [HN.out]; have hk2 := kept7 (heap_alloc_new w _) hb1; have HK2 := Lib.hid hk2; obtain ⟨c0, c1, c2, c3, c4, c5, c6⟩ := cells7 hk2; clear hk2) | (go_at_call 15; refine (within_any _ _ _).mono ?_; rintro e w' ⟨rfl, rfl⟩; rw [HW.out]) | (go_at_call 16; refine (tagOk_any nm k at_ sz tu tg pl _ hp).mono ?_; rintro e w2 ⟨rfl, hb2⟩; rw [HG.out]; have hk3 := kept7 HK2.out hb2; obtain ⟨d0, d1, d2, d3, d4, d5, d6⟩ := cells7 hk3; clear hk3) | (go_at_call 17; refine (partsOk_any nm k at_ sz tu tg pl _ HAT.out HTG.out ht).mono ?_; rintro e w3 ⟨rfl, hb3⟩; rw [HQ.out]))
    go_ret
    have H1 := HB0.out.trans (hb1.mono (by simp))
    have H2 := H1.trans (hb2.mono H1.size)
    exact ⟨by rw [HE.out, HN.out, HW.out, HG.out, HQ.out]; rfl, H2.trans (hb3.mono H2.size)⟩
set_option maxHeartbeats 1000000 in
theorem toAccess_any (nm : ByteArray) (k at_ sz tu tg pl : Int) (w : World) :
    Calls Try.prog 6 #[accV nm k at_ sz tu tg pl] w fun e w' => e = .returned (accV nm k at_ sz tu tg pl) ∧ Below w.heap.size w w' := by
  unfold accV
  go_enter Try.func6, Try.ntmps6
  go_wp2
  exact bodyPost_ret (v := .agg #[.string nm, .int .i64 k, .int .i64 at_, .int .i64 sz, .int .i64 tu, .int .i64 tg, .int .i64 pl]) (by simp [results, Try.results6, go_sem]) rfl ⟨rfl, by repeat (first | exact Below.refl _ _ | refine Below.alloc ?_ (by simp; try omega) _)⟩
set_option maxHeartbeats 1000000 in
theorem szAccess_any (nm : ByteArray) (k at_ sz tu tg pl left : Int) (w : World) (hs : nm.size ≤ maxLen) (h0 : 0 ≤ left) (h1 : left ≤ 1048576) :
    Calls Try.prog 4 #[accV nm k at_ sz tu tg pl, .int .i64 left] w fun e w' => e = .returned (.int .i64 (if left - nm.size < 0 then -1 else left - nm.size)) ∧ Below w.heap.size w w' := by
  unfold accV
  unfold maxLen at hs
  by_cases h : left - nm.size < 0
  all_goals
    have HI : Hid ((if left - (nm.size : Int) < 0 then -1 else left - (nm.size : Int)) = (if left - (nm.size : Int) < 0 then -1 else left - (nm.size : Int))) := Lib.hid rfl
    go_enter Try.func4, Try.ntmps4
    go_wp2
    go_ret
    exact ⟨by simp [h], by repeat (first | exact Below.refl _ _ | refine Below.alloc ?_ (by simp; try omega) _)⟩
end Go.Proofs.Ytliiffpegfkpbab
