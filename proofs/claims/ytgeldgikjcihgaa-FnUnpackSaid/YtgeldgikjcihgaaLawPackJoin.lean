/- The walk of the law FnPackJoin. -/
import Derived.Test.YtgeldgikjcihgaaMathPack3
import Derived.Test.YtgeldgikjcihgaaDrawPk
namespace Go.Proofs.Ytgeldgikjcihgaa
open Go.RowKit
def pkS (s : ByteArray) : ByteArray := ⟨(packB s.data.toList).toArray⟩
theorem implPackS (s : ByteArray) (w : World) (hs : s.size ≤ 1048576) :
    Calls Try.prog 13 #[.string s] w fun e w' => e = .returned (.string (pkS s)) ∧ Below w.heap.size w w' := implPack_any s w (by unfold maxLen; omega)
theorem specPackS (s : ByteArray) (w : World) (hs : s.size ≤ 1048576) :
    Calls Try.prog 14 #[.string s] w fun e w' => e = .returned (.string (pkS s)) ∧ Below w.heap.size w w' := specPack_any s w (by unfold maxLen; omega)
theorem pkS_le (s : ByteArray) : (pkS s).size ≤ 2000 := by
  have hsz : (pkS s).size = (packB s.data.toList).length := mk_sz _
  rw [hsz]
  cases h : wordsB s.data.toList.length
  · rw [packB, h]; simp
  · have h1 := packB_le h
    have h2 := (wordsB_iff _).1 h
    omega
theorem unPack2 (a b : ByteArray) (ha : a.size % 8 = 0) (hb : b.size % 8 = 0) (hab : a.size + b.size ≤ 1600) (w : World) :
    Calls Try.prog 15 #[.string (pkS a ++ pkS b)] w fun e w' => e = .returned (.tuple #[.string (a ++ b), .bool true]) ∧ Below w.heap.size w w' := by
  have hal : a.data.toList.length = a.size := rfl
  have hbl : b.data.toList.length = b.size := rfl
  have h := packB_un2 (a := a.data.toList) (b := b.data.toList) ((wordsB_iff _).2 ⟨ha, by omega⟩) ((wordsB_iff _).2 ⟨hb, by omega⟩)
  have hv : unV (pkS a ++ pkS b) = .tuple #[.string ⟨(a.data.toList ++ b.data.toList).toArray⟩, .bool true] :=
    unV_of (by rw [ba_app]; exact h) (by rw [List.length_append]; omega)
  have he : (⟨(a.data.toList ++ b.data.toList).toArray⟩ : ByteArray) = a ++ b := ext_ba (by rw [ba_app])
  rw [he] at hv
  rw [← hv]
  exact implUnpack_any _ w
set_option maxRecDepth 100000 in
set_option maxHeartbeats 4000000 in
theorem walkFnPackJoin (w : World) (a : Option Addr) (len cap : Nat) (h : Arg w a len cap) (a2 : Option Addr) (len2 cap2 : Nat) (h2 : Arg w a2 len2 cap2) :
    Calls Try.prog 5 #[.slice a len cap, .slice a2 len2 cap2] w fun e w' => e = .returned (.bool true) ∧ Below w.heap.size w w' := by
  have hlen := h.1.1
  have hlen2 := h2.1.1
  unfold maxLen at hlen hlen2
  by_cases hbig : 1048576 < len
  · go_enter Try.func5, Try.ntmps5
    go_wp2
    go_ret
    exact ⟨rfl, Below.refl _ _⟩
  by_cases hbig2 : 1048576 < len2
  · go_enter Try.func5, Try.ntmps5
    go_wp2
    go_ret
    exact ⟨rfl, Below.refl _ _⟩
  go_enter Try.func5, Try.ntmps5
  go_wp2_with fail
  refine (drawPack_any a len cap _ h).mono ?_
  rintro e w1 ⟨s, hs, rfl, hb1⟩
  go_wp2_with fail
  refine (drawPack_any a2 len2 cap2 _ (h2.below hb1)).mono ?_
  rintro e w2 ⟨t, ht, rfl, hb2⟩
  have HB2 := Lib.hid (hb1.trans (hb2.mono hb1.size))
  have HIs := Lib.hid (fun w => implPackS s w (by omega))
  have HSs := Lib.hid (fun w => specPackS s w (by omega))
  have HIt := Lib.hid (fun w => implPackS t w (by omega))
  have hXs := pkS_le s
  have hYs := pkS_le t
  clear h2 h hlen hlen2 hbig hbig2 hb1 hb2
  go_wp2_with fail
  with_reducible (refine (HIs.out _).mono ?_)
  rintro e w3 ⟨rfl, hb3⟩
  have HB3 := Lib.hid (HB2.out.trans (hb3.mono HB2.out.size))
  clear hb3
  go_wp2_with fail
  with_reducible (refine (HSs.out _).mono ?_)
  rintro e w4 ⟨rfl, hb4⟩
  have HB4 := Lib.hid (HB3.out.trans (hb4.mono HB3.out.size))
  clear hb4
  have hcase : ¬ s.size % 8 = 0 ∨ (s.size % 8 = 0 ∧ ¬ t.size % 8 = 0) ∨ (s.size % 8 = 0 ∧ t.size % 8 = 0 ∧ ¬ s.size + t.size ≤ 1600) ∨ (s.size % 8 = 0 ∧ t.size % 8 = 0 ∧ s.size + t.size ≤ 1600) := by omega
  rcases hcase with c1 | ⟨c1, c2⟩ | ⟨c1, c2, c3⟩ | ⟨c1, c2, c3⟩
  iterate 3
    · generalize pkS s = X at HIs HSs hXs ⊢
      go_wp2_with fail
      with_reducible (refine (HSs.out _).mono ?_)
      rintro e w5 ⟨rfl, hb5⟩
      have HB5 := Lib.hid (HB4.out.trans (hb5.mono HB4.out.size))
      clear hb5
      go_wp2
      go_ret
      exact ⟨rfl, HB5.out⟩
  have HU := Lib.hid (fun w => unPack2 s t c1 c2 c3 w)
  have hjn : (pkS (s ++ t)).size ≤ (pkS s).size + (pkS t).size := by
    rw [pkS, pkS, pkS, mk_sz, mk_sz, mk_sz, ba_app]
    exact packB_join c1 c2 c3
  have hst : ¬ 9223372036854775807 < s.size + t.size := by omega
  have HIst := Lib.hid (fun w => implPackS (s ++ t) w (by rw [ByteArray.size_append]; omega))
  have hjs := pkS_le (s ++ t)
  generalize pkS s = X at *
  generalize pkS t = Y at *
  generalize pkS (s ++ t) = Z at *
  have f1 : ¬ 9223372036854775807 < X.size + Y.size := by omega
  go_wp2_with fail
  with_reducible (refine (HIt.out _).mono ?_)
  rintro e w5 ⟨rfl, hb5⟩
  have HB5 := Lib.hid (HB4.out.trans (hb5.mono HB4.out.size))
  clear hb5
  go_wp2_with fail
  with_reducible (refine (HU.out _).mono ?_)
  rintro e w6 ⟨rfl, hb6⟩
  have HB6 := Lib.hid (HB5.out.trans (hb6.mono HB5.out.size))
  clear hb6
  go_wp2_with fail
  with_reducible (refine (HIst.out _).mono ?_)
  rintro e w7 ⟨rfl, hb7⟩
  have HB7 := Lib.hid (HB6.out.trans (hb7.mono HB6.out.size))
  clear hb7
  go_wp2_with fail
  with_reducible (refine (HIt.out _).mono ?_)
  rintro e w8 ⟨rfl, hb8⟩
  have HB8 := Lib.hid (HB7.out.trans (hb8.mono HB7.out.size))
  clear hb8
  go_wp2
  go_ret
  refine ⟨ret_bool ?_, HB8.out⟩
  simp; omega
end Go.Proofs.Ytgeldgikjcihgaa
