/- impl.Pack: what it answers at every argument. -/
import Derived.Test.YtgeldgikjcihgaaPkE
import Derived.Test.YtgeldgikjcihgaaCollect
namespace Go.Proofs.Ytgeldgikjcihgaa
open Go.RowKit
/-- what Pack answers. -/
def packB (l : List UInt8) : List UInt8 := if wordsB l.length then packW (wl (wordsQ l)) else []
theorem Coll.ws {B : Nat} {v : Value} {l : List W8} {W : World} (h : Coll B v l W) : ∃ A cap, v = .slice A (wl l).length cap ∧ ∀ b, W.heap.size ≤ b → WS (b + 1) b W v (wl l) := by
  have hr := h
  rcases hr.2 with ⟨rfl, h0⟩ | ⟨g, cap, cur, rfl, hB, hg, h1, h2, h3, h4⟩
  · have hl : wl l = [] := by rw [List.eq_nil_of_length_eq_zero h0]; rfl
    exact ⟨none, 0, by rw [hl]; rfl, fun b hb => by rw [hl]; exact WS.empty _ _ _ _ _ (by omega)⟩
  · have hlt := (Array.getElem?_eq_some_iff.1 hg).1
    refine ⟨some ⟨g, 0, none⟩, cap, by rw [wl_len], fun b hb => ⟨some ⟨g, 0, none⟩, cap, by rw [wl_len], by rw [wl_len]; exact h1, by unfold maxLen at h2; omega, wl_wds l, .inr ⟨g, 0, rfl, by omega, by omega, fun j u hu => ?_⟩⟩⟩
    rw [Nat.zero_add, cell_of_row _ _ _ _ _ _ hg]
    rw [← h4, List.getElem?_take] at hu
    split at hu
    · simpa using hu
    · cases hu
set_option maxHeartbeats 2000000 in
theorem implPack_any (s : ByteArray) (w : World) (hs : s.size ≤ maxLen) :
    Calls Try.prog 13 #[.string s] w fun e w' => e = .returned (.string ⟨(packB s.data.toList).toArray⟩) ∧ Below w.heap.size w w' := by
  have hsl : s.data.toList.length = s.size := by simp
  cases hw : wordsB s.size
  · have hT : packB s.data.toList = [] := by rw [packB, hsl, hw, if_neg (by simp)]
    rw [hT]
    clear hsl hT
    go_enter Try.func13, Try.ntmps13
    go_wp2_with (go_at_call 35; refine (isWords_any _ _ hs).mono ?_; rintro e w' ⟨rfl, rfl⟩)
    go_ret
    exact ⟨rfl, Below.refl _ _⟩
  · have hT : packB s.data.toList = packW (wl (wordsQ s.data.toList)) := by rw [packB, hsl, hw, if_pos rfl]
    have hw8 : s.size % 8 = 0 ∧ s.size ≤ 1600 := by simpa [wordsB] using hw
    have hwl : (wl (wordsQ s.data.toList)).length ≤ 200 := by rw [wl_len, wordsQ_length, hsl]; omega
    have hpl := pack_len (wl_wds (wordsQ s.data.toList))
    rw [hT]
    have HCo := Lib.hid (fun Wx h => callsIn_wide.1 (collect_in s Wx hw8.2 w.heap.size h))
    clear hsl hT hw8
    generalize hws : wordsQ s.data.toList = wq at HCo hwl hpl ⊢
    obtain ⟨R, hR⟩ : ∃ R, packW (wl wq) = R := ⟨_, rfl⟩
    rw [hR] at hpl ⊢
    have HR := Lib.hid hR
    have HWl := Lib.hid hwl
    have HRl : Hid (R.length ≤ 100000) := Lib.hid (by omega)
    clear hws hR hwl hpl
    go_enter Try.func13, Try.ntmps13
    go_wp2_with (first | (go_at_call 35; refine (isWords_any _ _ hs).mono ?_; rintro e w' ⟨rfl, rfl⟩; rw [hw]) | (go_at_call 37; refine (callsIn_wide.1 (wordsOf_in2 5 s _)).mono ?_; rintro e w' ⟨rfl, rfl⟩))
    refine (HCo.out _ (Boxed.new w 9 (.string s))).mono ?_
    rintro e w1 ⟨v, rfl, hcoll, hb1⟩
    obtain ⟨A, cap, rfl, hws⟩ := hcoll.ws
    have hWS := hws w1.heap.size (Nat.le_refl _)
    have hbb1 : Below w.heap.size w w1 := ((Below.refl _ w).alloc (Nat.le_refl _) (.cells #[.string s] 9)).trans (hb1.mono (by simp))
    clear hws hcoll hb1
    generalize hn : (wl wq).length = n at hWS HWl
    have HN := Lib.hid hn
    have h0 := heap_alloc_new w1 (.cells #[.pointer none, .slice none 0 0, .slice A n cap] 58)
    have hb0 : Below w1.heap.size w1 (w1.alloc (.cells #[.pointer none, .slice none 0 0, .slice A n cap] 58)) := (Below.refl _ _).alloc (Nat.le_refl _) _
    obtain ⟨w2, hw2⟩ : ∃ w2, w1.alloc (.cells #[.pointer none, .slice none 0 0, .slice A n cap] 58) = w2 := ⟨_, rfl⟩
    have hsz : w2.heap.size = w1.heap.size + 1 := by rw [← hw2]; simp
    rw [hw2] at h0 hb0
    have hU : PS (w1.heap.size + 1) w1.heap.size [] (.slice A n cap) (wl wq) w2 := by
      refine ⟨BF.fresh (w1.heap.size + 1) h0, ?_⟩
      obtain ⟨A', cap', e1, e2, e3, e4, e5⟩ := hWS
      refine ⟨A', cap', e1, e2, e3, e4, e5.imp id ?_⟩
      rintro ⟨g, o, ha, hg, hne, hr⟩
      exact ⟨g, o, ha, hg, hne, fun j u hu => (hb0.cell (p := ⟨g, o + j, none⟩) (show g < w1.heap.size by omega)).trans (hr j u hu)⟩
    have hrun := prun_any R (w1.heap.size + 1) w1.heap.size _ (pTag w1.heap.size) w2 ⟨[], _, _, hU, by rw [hn]; exact HWl.out, .inl ⟨rfl, by rw [List.nil_append]; exact HR.out, Nat.le_refl _⟩⟩ (by omega) HRl.out
    have HRun := Lib.hid hrun
    have HW2 := Lib.hid hw2
    have HB0 := Lib.hid (hbb1.trans (hb0.mono hbb1.size))
    have HLe := Lib.hid hbb1.size
    clear h0 hb0 hU hrun hw2 hWS hbb1 hn
    unfold pTag at HRun
    go_wp2_with fail
    rw [HW2.out]
    refine HRun.out.mono ?_
    rintro e w3 ⟨rfl, ⟨k, hj⟩, hk⟩
    have HK := Lib.hid (HB0.out.trans (hk.below (Nat.le_trans HLe.out (Nat.le_succ _)) HLe.out))
    have hB2 := hk.size
    obtain ⟨v', ws', hp⟩ := hj.ended
    have HS := Lib.hid (fstring_any 58 (w1.heap.size + 1) w1.heap.size R [v'] w3 hp.1 (by omega))
    clear hj hp hk
    go_wp2_with fail
    refine HS.out.mono ?_
    rintro e w4 ⟨rfl, hb3⟩
    have HB3 := Lib.hid (HK.out.trans (hb3.mono (Nat.le_trans HLe.out (Nat.le_succ _))))
    clear hb3
    go_wp2
    go_ret
    exact ⟨rfl, HB3.out⟩
end Go.Proofs.Ytgeldgikjcihgaa
