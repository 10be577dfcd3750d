/- The walk of the law FnPutTwo: true at every code. -/
import Derived.Test.YtliiffpegfkpbaaPut3
import Derived.Test.YtliiffpegfkpbaaPutGet
import Derived.Test.YtliiffpegfkpbaaDraw3
namespace Go.Proofs.Ytliiffpegfkpbaa
open Go.RowKit
theorem put_one {l : List UInt8} (hw : wordsB l.length = true) (k : Nat) (hk : k < l.length) : putB l (k : Int) 1 77 = true := by
  have hw8 : l.length % 8 = 0 ∧ l.length ≤ 1600 := by simpa [wordsB] using hw
  simp only [putB, putOk, hw, placeB, fitsB, Bool.true_and, Bool.and_eq_true, decide_eq_true_eq]
  refine ⟨⟨by omega, by omega, by simp, by omega⟩, by omega, .inr ⟨by omega, by decide⟩⟩
theorem putL_comm (l : List UInt8) (a : Nat) (xs : List UInt8) (k : Nat) (ys : List UInt8) (h1 : a + xs.length ≤ l.length) (h2 : k + ys.length ≤ l.length) (hd : k + ys.length ≤ a ∨ a + xs.length ≤ k) :
    putL (putL l a xs) k ys = putL (putL l k ys) a xs := by
  have l1 := putL_length l a xs h1
  have l2 := putL_length l k ys h2
  apply List.ext_getElem?
  intro j
  by_cases ha : a ≤ j ∧ j < a + xs.length
  · obtain ⟨i, rfl⟩ : ∃ i, j = a + i := ⟨j - a, by omega⟩
    rw [putL_out _ k ys (by omega) (a + i) (by omega), putL_in l a xs h1 i (by omega), putL_in _ a xs (by omega) i (by omega)]
  · by_cases hk : k ≤ j ∧ j < k + ys.length
    · obtain ⟨i, rfl⟩ : ∃ i, j = k + i := ⟨j - k, by omega⟩
      rw [putL_in _ k ys (by omega) i (by omega), putL_out _ a xs (by omega) (k + i) (by omega), putL_in l k ys h2 i (by omega)]
    · rw [putL_out _ k ys (by omega) j (by omega), putL_out l a xs h1 j (by omega), putL_out _ a xs (by omega) j (by omega), putL_out l k ys h2 j (by omega)]
theorem put_two {l : List UInt8} {a z n : Int} (h : putB l a z n = true) (hn : -9223372036854775808 ≤ n ∧ n ≤ 9223372036854775807) (k : Nat) (hk : k < l.length) (hd : (k : Int) < a ∨ a + z ≤ k) :
    putB (putT l a z n) k 1 77 = true ∧ putB l k 1 77 = true ∧ putB (putT l k 1 77) a z n = true ∧ putT (putT l a z n) k 1 77 = putT (putT l k 1 77) a z n ∧
      getI (putT (putT l a z n) k 1 77) k 1 = 77 ∧ getI (putT (putT l a z n) k 1 77) a z = n := by
  have h' := h
  simp only [putB, Bool.and_eq_true] at h'
  have hl := putT_length h
  have o1 : putB (putT l a z n) k 1 77 = true := put_one (by rw [hl]; exact h'.1) k (by rw [hl]; exact hk)
  have o2 : putB l k 1 77 = true := put_one h'.1 k hk
  have hl2 := putT_length o2
  have o3 : putB (putT l k 1 77) a z n = true := by
    rw [putB, putOk, hl2]
    rw [putB, putOk] at h
    exact h
  obtain ⟨hw, hp, hf, ha, hin, hz⟩ := putB_parts h
  have e1 : ((k : Int)).toNat = k := rfl
  have e2 : (1 : Int).toNat = 1 := rfl
  have hcom : putT (putT l a z n) k 1 77 = putT (putT l k 1 77) a z n := by
    rw [putT_eq o1, putT_eq o3, putT_eq h, putT_eq o2, e1, e2]
    exact putL_comm l a.toNat (leB n z.toNat) k (leB 77 1) (by rw [leB_length]; exact hin) (by rw [leB_length]; omega) (by rw [leB_length, leB_length]; omega)
  exact ⟨o1, o2, o3, hcom, put_got o1 (by omega), by rw [hcom]; exact put_got o3 hn⟩
set_option maxHeartbeats 4000000 in
theorem walkFnPutTwo (w : World) (a : Option Addr) (len cap : Nat) (h : Arg w a len cap) (a2 : Option Addr) (len2 cap2 : Nat) (h2 : Arg w a2 len2 cap2) :
    Calls Try.prog 7 #[.slice a len cap, .slice a2 len2 cap2] w fun e w' => e = .returned (.bool true) ∧ Below w.heap.size w w' := by
  have hlen := h.1.1
  have hlen2 := h2.1.1
  unfold maxLen at hlen hlen2
  by_cases hbig : 1048576 < len
  · go_enter Try.func7, Try.ntmps7
    go_wp2
    go_ret
    exact ⟨rfl, Below.refl _ _⟩
  by_cases hbig2 : 1048576 < len2
  · go_enter Try.func7, Try.ntmps7
    go_wp2
    go_ret
    exact ⟨rfl, Below.refl _ _⟩
  go_enter Try.func7, Try.ntmps7
  go_wp2_with fail
  refine (drawPut_any a len cap _ h).mono ?_
  rintro e w1 ⟨s, y, z, n, hs, ⟨hy0, hy1⟩, ⟨hz0, hz1⟩, ⟨hn0, hn1⟩, rfl, hb1⟩
  have hsm : s.size ≤ maxLen := by unfold maxLen; omega
  go_wp2_with fail
  refine (implPut_any s y z n _ hsm (by omega)).mono ?_
  rintro e w2 ⟨rfl, hb2⟩
  go_wp2_with fail
  refine (specPut_any s y z n _ hsm (by omega)).mono ?_
  rintro e w3 ⟨rfl, hb3⟩
  have hb13 : Below w.heap.size w w3 := hb1.trans ((hb2.trans (hb3.mono hb2.size)).mono hb1.size)
  cases hB : putB s.data.toList y z n
  · generalize (⟨(putT s.data.toList y z n).toArray⟩ : ByteArray) = X
    go_wp2
    go_ret
    exact ⟨rfl, hb13⟩
  · obtain ⟨hw, hp, hf, hy, hin, hz⟩ := putB_parts hB
    rw [ba_size] at hw hin
    have hpos : 0 < s.size := by omega
    obtain ⟨k, hk, hkm⟩ : ∃ k : Nat, (len2 : Int) % (s.size : Int) = (k : Int) ∧ k < s.size :=
      ⟨len2 % s.size, (Int.natCast_emod _ _).symm, Nat.mod_lt _ hpos⟩
    have hkt : (len2 : Int).tmod (s.size : Int) = (k : Int) := by rw [Int.tmod_eq_emod_of_nonneg (by omega)]; exact hk
    have hgot := put_got hB (by omega)
    have hL := putT_length hB
    rw [ba_size] at hL
    have htwo := put_two hB (by omega) k (by rw [ba_size]; exact hkm)
    have hXl : (⟨(putT s.data.toList y z n).toArray⟩ : ByteArray).data.toList = putT s.data.toList y z n := rfl
    have hXs : (⟨(putT s.data.toList y z n).toArray⟩ : ByteArray).size = s.size := by rw [mk_size, hL]
    generalize (⟨(putT s.data.toList y z n).toArray⟩ : ByteArray) = X at hXl hXs ⊢
    rw [← hXl] at htwo hgot
    have hXm : X.size ≤ maxLen := by unfold maxLen; omega
    have hzz : (z : Int) ≤ 8 := by omega
    have HXs := Lib.hid hXs
    have HG := Lib.hid hgot
    clear hXl hL hw hz hXs hgot
    by_cases hd : y ≤ k ∧ (k : Int) < y + z
    · obtain ⟨hd1, hd2⟩ := hd
      clear htwo hB hf hp
      have hg := HG.out
      go_wp2_with (first | (go_at_call 14; go_must (refine (implGet_any X _ _ _ hXm).mono ?_); rintro e w6 ⟨rfl, hb6⟩; replace hb13 := hb13.trans (hb6.mono hb13.size)))
      go_ret
      exact ⟨rfl, hb13⟩
    · obtain ⟨o1, o2, o3, hcom, g1, g2⟩ := htwo (by omega)
      have hd' : (k : Int) < y ∨ (y ≤ k ∧ y + z ≤ k) := by omega
      have O1 := Lib.hid o1
      have O2 := Lib.hid o2
      have O3 := Lib.hid o3
      have HCom := Lib.hid hcom
      have G1 := Lib.hid g1
      have G2 := Lib.hid g2
      have hA := putT_length o1
      have hC := putT_length o2
      have HA := Lib.hid hA
      have HC := Lib.hid hC
      clear o1 o2 o3 hcom g1 g2 hB hf hp htwo hd hA hC
      rcases hd' with hd1 | ⟨hd1, hd2⟩
      all_goals
        go_wp2_with fail
        refine (implPut_any X k 1 77 _ hXm (by omega)).mono ?_
        rintro e w4 ⟨rfl, hb4⟩
        replace hb13 := hb13.trans (hb4.mono hb13.size)
        rw [O1.out]
        go_wp2_with fail
        refine (implPut_any s k 1 77 _ hsm (by omega)).mono ?_
        rintro e w5 ⟨rfl, hb5⟩
        replace hb13 := hb13.trans (hb5.mono hb13.size)
        rw [O2.out]
        have hAm : (⟨(putT X.data.toList k 1 77).toArray⟩ : ByteArray).size ≤ maxLen := by
          rw [mk_size, HA.out, ba_size]; exact hXm
        have hCm : (⟨(putT s.data.toList k 1 77).toArray⟩ : ByteArray).size ≤ maxLen := by
          rw [mk_size, HC.out, ba_size]; exact hsm
        have HAl : Hid ((⟨(putT X.data.toList k 1 77).toArray⟩ : ByteArray).data.toList = putT X.data.toList k 1 77) := Lib.hid rfl
        have HCl : Hid ((⟨(putT s.data.toList k 1 77).toArray⟩ : ByteArray).data.toList = putT s.data.toList k 1 77) := Lib.hid rfl
        have HAC : Hid ((⟨(putT X.data.toList k 1 77).toArray⟩ : ByteArray) = ⟨(putT (putT s.data.toList k 1 77) y z n).toArray⟩) := Lib.hid (by rw [HCom.out])
        generalize (⟨(putT X.data.toList k 1 77).toArray⟩ : ByteArray) = A at hAm HAl HAC ⊢
        generalize (⟨(putT s.data.toList k 1 77).toArray⟩ : ByteArray) = C at hCm HCl ⊢
        go_wp2_with fail
        refine (implPut_any C y z n _ hCm (by omega)).mono ?_
        rintro e w6 ⟨rfl, hb6⟩
        replace hb13 := hb13.trans (hb6.mono hb13.size)
        rw [HCl.out, O3.out, ← HAC.out]
        have g1 := G1.out
        have g2 := G2.out
        rw [← HAl.out] at g1 g2
        go_wp2_with (first | (go_at_call 14; go_must (refine (implGet_any A _ _ _ hAm).mono ?_); rintro e w6 ⟨rfl, hb6⟩; replace hb13 := hb13.trans (hb6.mono hb13.size)))
        go_ret
        exact ⟨rfl, hb13⟩
end Go.Proofs.Ytliiffpegfkpbaa
