/- spec.Pack; the walk of the law FnExactPack. -/
import Derived.Test.YtgeldgikjcihgaaPackS
namespace Go.Proofs.Ytgeldgikjcihgaa
open Go.RowKit
set_option maxHeartbeats 400000 in
theorem l1Ok_any3 (s : ByteArray) (w : World) (hs : s.size ≤ maxLen) :
    Calls Try.prog 41 #[.string s] w fun e w' => e = .returned (.bool (wordsB s.size)) ∧ w = w' := by
  unfold maxLen at hs
  by_cases h1 : s.size % 8 = 0
  all_goals
    go_enter Try.func41, Try.ntmps41
    go_wp2
    go_ret
    refine ⟨ret_bool ?_, rfl⟩
    simp [wordsB, h1]
  omega
/-- the words of a text are the text. -/
theorem wl_flat (l : List UInt8) (h : l.length % 8 = 0) : (wl (wordsQ l)).flatten = l := by
  have hw := wl_wds (wordsQ l)
  have hlen : (wl (wordsQ l)).length = l.length / 8 := by rw [wl_len, wordsQ_length]
  have hfl : (wl (wordsQ l)).flatten.length = l.length := by rw [flat_length hw, hlen]; omega
  apply List.ext_getElem?
  intro i
  by_cases hi : i < l.length
  · have hk : i / 8 < (wl (wordsQ l)).length := by rw [hlen]; omega
    have h1 := flat_at (wl (wordsQ l)) (i / 8) (i % 8) hw hk (by omega)
    rw [show 8 * (i / 8) + i % 8 = i by omega] at h1
    have h2 : (wl (wordsQ l))[i / 8] = (wordQ l (i / 8)).1 := by simp [wl, wordsQ]
    rw [h1, h2, wordQ_in l (i / 8) (by omega), List.getElem?_take, if_pos (by omega), List.getElem?_drop, show 8 * (i / 8) + i % 8 = i by omega]
  · rw [List.getElem?_eq_none (by omega), List.getElem?_eq_none (by omega)]
set_option maxHeartbeats 1000000 in
theorem specPack_any (s : ByteArray) (w : World) (hs : s.size ≤ maxLen) :
    Calls Try.prog 14 #[.string s] w fun e w' => e = .returned (.string ⟨(packB s.data.toList).toArray⟩) ∧ Below w.heap.size w w' := by
  have hsl : s.data.toList.length = s.size := rfl
  have HOk := Lib.hid (fun w => l1Ok_any3 s w hs)
  cases hw : wordsB s.size
  · have hT : packB s.data.toList = [] := by rw [packB, hsl, hw, if_neg (by simp)]
    rw [hT]
    clear hsl hT
    go_enter Try.func14, Try.ntmps14
    go_wp2_with fail
    refine (HOk.out _).mono ?_
    rintro e w' ⟨rfl, rfl⟩
    rw [hw]
    go_wp2
    go_ret
    exact ⟨rfl, Below.refl _ _⟩
  · have hT : packB s.data.toList = packW (wl (wordsQ s.data.toList)) := by rw [packB, hsl, hw, if_pos rfl]
    have hw8 : s.size % 8 = 0 ∧ s.size ≤ 1600 := by simpa [wordsB] using hw
    rw [hT]
    have HP := Lib.hid (fun w => l3Pack_any s (wl (wordsQ s.data.toList)) w (wl_flat _ (by rw [hsl]; exact hw8.1)).symm (wl_wds _) (by rw [wl_len, wordsQ_length, hsl]; omega))
    clear hsl hT
    generalize packW (wl (wordsQ s.data.toList)) = R at HP ⊢
    go_enter Try.func14, Try.ntmps14
    go_wp2_with fail
    refine (HOk.out _).mono ?_
    rintro e w' ⟨rfl, rfl⟩
    rw [hw]
    go_wp2_with fail
    refine (HP.out _).mono ?_
    rintro e w' ⟨rfl, hb⟩
    go_wp2
    go_ret
    exact ⟨rfl, hb⟩
set_option maxHeartbeats 1000000 in
theorem walkExactPack (s : ByteArray) (hs : s.size ≤ maxLen) (w : World) :
    Calls Try.prog 7 #[.string s] w fun e w' => e = .returned (.bool true) ∧ Below w.heap.size w w' := by
  have hI := fun w => implPack_any s w hs
  have hS := fun w => specPack_any s w hs
  have HI := Lib.hid hI
  have HS := Lib.hid hS
  clear hI hS
  have hs' := hs
  unfold maxLen at hs'
  by_cases hbig : 1048576 < s.size
  · go_enter Try.func7, Try.ntmps7
    go_wp2
    go_ret
    exact ⟨rfl, Below.refl _ _⟩
  generalize packB s.data.toList = R at HI HS
  go_enter Try.func7, Try.ntmps7
  go_wp2_with fail
  with_reducible (refine (HS.out _).mono ?_)
  rintro e w1 ⟨rfl, hb1⟩
  have HB1 := Lib.hid hb1
  clear hb1
  go_wp2_with fail
  with_reducible (refine (HI.out _).mono ?_)
  rintro e w2 ⟨rfl, hb2⟩
  have HB2 := Lib.hid (HB1.out.trans (hb2.mono HB1.out.size))
  clear hb2
  go_wp2
  go_ret
  exact ⟨rfl, HB2.out⟩
end Go.Proofs.Ytgeldgikjcihgaa
