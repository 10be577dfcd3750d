/- The walks of the laws FnGet and FnGetParts: true at every code. -/
import Derived.Test.YtliiffpegfkpbaaPut3
import Derived.Test.YtliiffpegfkpbaaPutGet
import Derived.Test.YtliiffpegfkpbaaDraw3
namespace Go.Proofs.Ytliiffpegfkpbaa
open Go.RowKit
theorem small_of (l : List UInt8) (y z : Int) (hw : l.length % 8 = 0 ∧ l.length ≤ 1600) (hp : placeB y z = true) (h4 : z = 1 ∨ z = 2 ∨ z = 4) : getI l y z = (leN l y.toNat z.toNat : Nat) ∧ getI l y z < 256 ^ z.toNat := by
  have hlt := leN_lt l z.toNat y.toNat
  rw [getI_eq hw hp]
  rcases h4 with rfl | rfl | rfl
  · have e : (256 : Nat) ^ (1 : Int).toNat = 256 := rfl
    have e2 : (256 : Int) ^ (1 : Int).toNat = 256 := rfl
    rw [e] at hlt
    rw [e2, wrap64_small _ (by omega)]
    exact ⟨rfl, by omega⟩
  · have e : (256 : Nat) ^ (2 : Int).toNat = 65536 := rfl
    have e2 : (256 : Int) ^ (2 : Int).toNat = 65536 := rfl
    rw [e] at hlt
    rw [e2, wrap64_small _ (by omega)]
    exact ⟨rfl, by omega⟩
  · have e : (256 : Nat) ^ (4 : Int).toNat = 4294967296 := rfl
    have e2 : (256 : Int) ^ (4 : Int).toNat = 4294967296 := rfl
    rw [e] at hlt
    rw [e2, wrap64_small _ (by omega)]
    exact ⟨rfl, by omega⟩
theorem getI_none (l : List UInt8) (y z : Int) (hw : ¬ (l.length % 8 = 0 ∧ l.length ≤ 1600)) : getI l y z = 0 := by
  rw [getI, if_neg]
  rintro ⟨h, _⟩
  exact hw (by simpa [wordsB] using h)
theorem place_of (y z : Int) (h0 : 0 ≤ y) (h1 : y ≤ 1600) (hz : z = 1 ∨ z = 2 ∨ z = 4) (hm : y % z = 0) : placeB y z = true := by
  simp only [placeB, decide_eq_true_eq]
  exact ⟨h0, h1, by omega, hm⟩
/-- a number of two halves is both together. -/
theorem parts_of (l : List UInt8) (y : Int) (h0 : 0 ≤ y) (h1 : y ≤ 1500) (h8 : y % 8 = 0) :
    (getI l y 2 = getI l y 1 + 256 * getI l (y + 1) 1 ∧ getI l y 4 = getI l y 2 + 65536 * getI l (y + 2) 2 ∧ 0 ≤ getI l y 4) ∧ (0 ≤ getI l y 1 ∧ getI l y 1 < 256) ∧ (0 ≤ getI l (y + 1) 1 ∧ getI l (y + 1) 1 < 256) ∧ (0 ≤ getI l (y + 2) 2 ∧ getI l (y + 2) 2 < 65536) := by
  by_cases hw : l.length % 8 = 0 ∧ l.length ≤ 1600
  · obtain ⟨a, rfl⟩ := Int.eq_ofNat_of_zero_le h0
    have a1 := small_of l a 1 hw (place_of _ _ h0 (by omega) (by omega) (by omega)) (by omega)
    have a2 := small_of l a 2 hw (place_of _ _ h0 (by omega) (by omega) (by omega)) (by omega)
    have a4 := small_of l a 4 hw (place_of _ _ h0 (by omega) (by omega) (by omega)) (by omega)
    have b1 := small_of l (a + 1) 1 hw (place_of _ _ (by omega) (by omega) (by omega) (by omega)) (by omega)
    have b2 := small_of l (a + 2) 2 hw (place_of _ _ (by omega) (by omega) (by omega) (by omega)) (by omega)
    have l2 := leN_2 l a
    have l4 := leN_4 l a
    rw [show ((a : Int) + 1).toNat = a + 1 by omega] at b1
    rw [show ((a : Int) + 2).toNat = a + 2 by omega] at b2
    rw [Int.toNat_natCast] at a1 a2 a4
    have e1 : (256 : Int) ^ (1 : Int).toNat = 256 := rfl
    have e2 : (256 : Int) ^ (2 : Int).toNat = 65536 := rfl
    have t1 : (1 : Int).toNat = 1 := rfl
    have t2 : (2 : Int).toNat = 2 := rfl
    have t4 : (4 : Int).toNat = 4 := rfl
    rw [e1] at a1 b1
    rw [e2] at a2 b2
    rw [t1] at a1 b1
    rw [t2] at a2 b2
    rw [t4] at a4
    obtain ⟨a1, a1'⟩ := a1
    obtain ⟨a2, a2'⟩ := a2
    obtain ⟨a4, _⟩ := a4
    obtain ⟨b1, b1'⟩ := b1
    obtain ⟨b2, b2'⟩ := b2
    rw [a1] at a1'
    rw [b1] at b1'
    rw [b2] at b2'
    rw [a1, a2, a4, b1, b2]
    omega
  · simp [getI_none l _ _ hw]
set_option maxHeartbeats 4000000 in
theorem walkFnGet (w : World) (a : Option Addr) (len cap : Nat) (h : Arg w a len cap) :
    Calls Try.prog 3 #[.slice a len cap] w fun e w' => e = .returned (.bool true) ∧ Below w.heap.size w w' := by
  have hlen := h.1.1
  unfold maxLen at hlen
  by_cases hbig : 1048576 < len
  · go_enter Try.func3, Try.ntmps3
    go_wp2
    go_ret
    exact ⟨rfl, Below.refl _ _⟩
  go_enter Try.func3, Try.ntmps3
  go_wp2_with fail
  refine (drawPut_any a len cap _ h).mono ?_
  rintro e w1 ⟨s, y, z, n, hs, ⟨hy0, hy1⟩, ⟨hz0, hz1⟩, ⟨hn0, hn1⟩, rfl, hb1⟩
  have hsm : s.size ≤ maxLen := by unfold maxLen; omega
  go_wp2_with fail
  refine (implPut_any s y z n _ hsm (by omega)).mono ?_
  rintro e w2 ⟨rfl, hb2⟩
  go_wp2_with fail
  refine (specPut_any s y z n _ hsm (by omega)).mono ?_
  rintro e w3 ⟨rfl, hb3⟩
  have hb13 : Below w.heap.size w w3 := hb1.trans ((hb2.trans (hb3.mono hb2.size)).mono hb1.size)
  have hX1 := putT_bd s.data.toList y z n 1700 (by rw [ba_size]; exact hs)
  cases hB : putB s.data.toList y z n
  · generalize (⟨(putT s.data.toList y z n).toArray⟩ : ByteArray) = X
    clear hX1
    go_wp2_with (first | (go_at_call 14; go_must (refine (implGet_any _ _ _ _ hsm).mono ?_); rintro e w4 ⟨rfl, hb4⟩; replace hb13 := hb13.trans (hb4.mono hb13.size)) | (go_at_call 15; go_must (refine (specGet_any _ _ _ _ hsm).mono ?_); rintro e w' ⟨rfl, rfl⟩))
    go_ret
    exact ⟨rfl, hb13⟩
  · have hT := put_backT hB
    have hBB := put_backB hB
    have hG := put_got hB (by omega)
    have hL := putT_length hB
    rw [ba_size] at hL
    have hXl : (⟨(putT s.data.toList y z n).toArray⟩ : ByteArray).data.toList = putT s.data.toList y z n := rfl
    have hXs : (⟨(putT s.data.toList y z n).toArray⟩ : ByteArray).size = s.size := by rw [mk_size, hL]
    generalize (⟨(putT s.data.toList y z n).toArray⟩ : ByteArray) = X at hXl hXs ⊢
    rw [← hXl] at hT hBB hG
    have hXm : X.size ≤ maxLen := by unfold maxLen; omega
    have hgb : -9223372036854775808 ≤ getI s.data.toList y z ∧ getI s.data.toList y z ≤ 9223372036854775807 := getI_bd _ _ _
    clear hX1 hXl hL
    have HT := Lib.hid hT
    have HBB := Lib.hid hBB
    have HG := Lib.hid hG
    have HXs := Lib.hid hXs
    clear hT hBB hG hXs hB
    go_wp2_with (first | (go_at_call 14; go_must (refine (implGet_any s _ _ _ hsm).mono ?_); rintro e w4 ⟨rfl, hb4⟩; replace hb13 := hb13.trans (hb4.mono hb13.size)) | (go_at_call 15; go_must (refine (specGet_any _ _ _ _ hsm).mono ?_); rintro e w' ⟨rfl, rfl⟩))
    refine (implPut_any X y z _ _ hXm hgb).mono ?_
    rintro e w5 ⟨rfl, hb5⟩
    replace hb13 := hb13.trans (hb5.mono hb13.size)
    rw [HT.out, HBB.out, ba_eta]
    have hg := HG.out
    have hxs : ((X.size : Int) == (s.size : Int)) = true := by rw [HXs.out]; simp
    go_wp2_with (first | (go_at_call 14; go_must (refine (implGet_any X _ _ _ hXm).mono ?_); rintro e w6 ⟨rfl, hb6⟩; replace hb13 := hb13.trans (hb6.mono hb13.size)))
    go_ret
    exact ⟨rfl, hb13⟩

set_option maxHeartbeats 4000000 in
theorem walkFnGetParts (w : World) (a : Option Addr) (len cap : Nat) (h : Arg w a len cap) :
    Calls Try.prog 4 #[.slice a len cap] w fun e w' => e = .returned (.bool true) ∧ Below w.heap.size w w' := by
  have hlen := h.1.1
  unfold maxLen at hlen
  by_cases hbig : 1048576 < len
  · go_enter Try.func4, Try.ntmps4
    go_wp2
    go_ret
    exact ⟨rfl, Below.refl _ _⟩
  go_enter Try.func4, Try.ntmps4
  go_wp2_with fail
  refine (drawGet_any a len cap _ h).mono ?_
  rintro e w1 ⟨s, y, z, hs, ⟨hy0, hy1⟩, ⟨hz0, hz1⟩, rfl, hb13⟩
  have hsm : s.size ≤ maxLen := by unfold maxLen; omega
  by_cases hin : 0 ≤ y ∧ y ≤ 1500 ∧ y % 8 = 0
  · obtain ⟨hy2, hy3, hy8⟩ := hin
    have hb8 : (y % 8 == 0) = true := by simp [hy8]
    have hn8 : (y % 8 != 0) = false := by simp [hy8]
    obtain ⟨⟨p2, p4, p0⟩, ⟨q1, q2⟩, ⟨q3, q4⟩, ⟨q5, q6⟩⟩ := parts_of s.data.toList y hy2 hy3 hy8
    have r1 : (getI s.data.toList y 2 == getI s.data.toList y 1 + 256 * getI s.data.toList (y + 1) 1) = true := by rw [p2]; simp
    have r2 : (getI s.data.toList y 4 == getI s.data.toList y 2 + 65536 * getI s.data.toList (y + 2) 2) = true := by rw [p4]; simp
    have q7 : 0 ≤ getI s.data.toList y 2 := by omega
    have q8 : getI s.data.toList y 2 < 65536 := by omega
    clear p2 p4 hy8
    go_wp2_with (first | (go_at_call 14; go_must (refine (implGet_any s _ _ _ hsm).mono ?_); rintro e w4 ⟨rfl, hb4⟩; replace hb13 := hb13.trans (hb4.mono hb13.size)) | (go_at_call 15; go_must (refine (specGet_any _ _ _ _ hsm).mono ?_); rintro e w' ⟨rfl, rfl⟩))
    go_ret
    exact ⟨rfl, hb13⟩
  · have hin2 : y < 0 ∨ (0 ≤ y ∧ 1500 < y) ∨ (0 ≤ y ∧ y ≤ 1500 ∧ (y % 8 != 0) = true) := by
      by_cases h0 : y < 0
      · exact .inl h0
      by_cases h1 : 1500 < y
      · exact .inr (.inl ⟨by omega, h1⟩)
      · exact .inr (.inr ⟨by omega, by omega, by simp; omega⟩)
    rcases hin2 with h1 | ⟨h1, h2⟩ | ⟨h1, h2, h3⟩
    all_goals
      clear hin
      go_wp2_with (first | (go_at_call 14; go_must (refine (implGet_any s _ _ _ hsm).mono ?_); rintro e w4 ⟨rfl, hb4⟩; replace hb13 := hb13.trans (hb4.mono hb13.size)) | (go_at_call 15; go_must (refine (specGet_any _ _ _ _ hsm).mono ?_); rintro e w' ⟨rfl, rfl⟩))
      go_ret
      exact ⟨rfl, hb13⟩
end Go.Proofs.Ytliiffpegfkpbaa
