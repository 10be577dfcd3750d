/- The walk of the law FnTrim: true at every code. -/
import Derived.Test.YtliiffpegfkpbaaTrimL
namespace Go.Proofs.Ytliiffpegfkpbaa
open Go.RowKit
set_option maxHeartbeats 4000000 in
theorem walkFnTrim (w : World) (a : Option Addr) (len cap : Nat) (h : Arg w a len cap) :
    Calls Try.prog 6 #[.slice a len cap] w fun e w' => e = .returned (.bool true) ∧ Below w.heap.size w w' := by
  have hlen := h.1.1
  unfold maxLen at hlen
  by_cases hbig : 1048576 < len
  · go_enter Try.func6, Try.ntmps6
    go_wp2
    go_ret
    exact ⟨rfl, Below.refl _ _⟩
  go_enter Try.func6, Try.ntmps6
  go_wp2_with fail
  refine (drawTrim_any a len cap _ h).mono ?_
  rintro e w1 ⟨s, hs, rfl, hb13⟩
  have hsm : s.size ≤ maxLen := by unfold maxLen; omega
  go_wp2_with fail
  refine (implTrim_any s _ hsm).mono ?_
  rintro e w2 ⟨rfl, hb2⟩
  replace hb13 := hb13.trans (hb2.mono hb13.size)
  cases hw : wordsB s.data.toList.length
  · have hT : trimB s.data.toList = [] := by rw [trimB, hw, if_neg (by simp)]
    rw [hT]
    have HT := Lib.hid hT
    clear hT hw
    go_wp2_with fail
    refine (specTrim_any s _ hsm).mono ?_
    rintro e w' ⟨rfl, rfl⟩
    rw [HT.out]
    go_wp2_with fail
    refine (specTrim_any s _ hsm).mono ?_
    rintro e w' ⟨rfl, rfl⟩
    rw [HT.out]
    go_wp2
    go_ret
    exact ⟨rfl, hb13⟩
  · obtain ⟨t, hT, htl, hid, htop, hget⟩ := trim_law hw
    have hw8 : s.data.toList.length % 8 = 0 ∧ s.data.toList.length ≤ 1600 := by simpa [wordsB] using hw
    rw [ba_size] at htl hw8
    have hXl : (⟨(trimB s.data.toList).toArray⟩ : ByteArray).data.toList = trimB s.data.toList := rfl
    have hXs : (⟨(trimB s.data.toList).toArray⟩ : ByteArray).size = 8 * t := by rw [mk_size, hT, List.length_take, ba_size]; omega
    have hXe : s.extract 0 (8 * t) = ⟨(trimB s.data.toList).toArray⟩ := by
      apply ext_ba; rw [Lib.extract_data, List.drop_zero, Nat.sub_zero, ← hT]
    have HSpec : Hid (∀ w : World, Calls Try.prog 24 #[.string s] w fun e w' => e = .returned (.string ⟨(trimB s.data.toList).toArray⟩) ∧ w = w') := Lib.hid (fun w => specTrim_any s w hsm)
    generalize (⟨(trimB s.data.toList).toArray⟩ : ByteArray) = X at hXl hXs hXe HSpec ⊢
    rw [← hXl] at htop hget hid
    have hXm : X.size ≤ maxLen := by unfold maxLen; omega
    have HImp : Hid (∀ w : World, Calls Try.prog 23 #[.string X] w fun e w' => e = .returned (.string X) ∧ Below w.heap.size w w') := Lib.hid (fun w => by
      have := implTrim_any X w hXm
      rw [hid] at this
      have e : (⟨X.data.toList.toArray⟩ : ByteArray) = X := by cases X; simp
      rwa [e] at this)
    have HT := Lib.hid htop
    have HG := Lib.hid hget
    have HXs := Lib.hid hXs
    have HXe := Lib.hid hXe
    obtain ⟨hm8, hl16⟩ := hw8
    have HM8 := Lib.hid hm8
    have hXb : X.size ≤ s.size := by omega
    clear hT hid htop hget hXs hXe hXl hw hm8
    by_cases ht0 : t = 0
    · have hx0 : ((X.size : Int) == 0) = true := by rw [HXs.out, ht0]; rfl
      go_wp2_with fail
      refine (HSpec.out _).mono ?_
      rintro e w' ⟨rfl, rfl⟩
      go_wp2_with fail
      refine (HSpec.out _).mono ?_
      rintro e w' ⟨rfl, rfl⟩
      go_wp2
      go_ret
      exact ⟨rfl, hb13⟩
    · have hx0 : ((X.size : Int) == 0) = false := by rw [HXs.out]; simp; omega
      have hx8 : 8 ≤ X.size := by rw [HXs.out]; omega
      go_wp2_with fail
      refine (HSpec.out _).mono ?_
      rintro e w' ⟨rfl, rfl⟩
      go_wp2_with fail
      go_loopw [6] (fun i wr => ∃ q : Nat, i = .int .i64 (8 * (q : Int)) ∧ 8 * q ≤ s.size ∧ Hid (Below w.heap.size w wr)) (fun i _ => (s.size - intOf i).toNat)
      case atStart => exact ⟨0, rfl, by omega, hb13⟩
      case round =>
        obtain ⟨q, rfl, hq, HB⟩ := hrel
        clear hb13
        have hb13 := HB.out
        by_cases hlt : 8 * q < s.size
        · have hg := HG.out q (by rw [ba_size]; exact hlt)
          have hd : decide (8 * (q : Int) < (s.size : Int)) = true := by simp; omega
          have hq1 : 8 * (q + 1) ≤ s.size := by have := HM8.out; omega
          go_wp2_with (first | (go_at_call 14; go_must (refine (implGet_any _ _ _ _ (by first | exact hXm | exact hsm)).mono ?_); rintro e w4 ⟨rfl, hb4⟩; replace hb13 := hb13.trans (hb4.mono hb13.size)))
          go_roundw
          case rel => exact ⟨q + 1, by go_num, hq1, hb13⟩
          case measure => simp [intOf]; omega
        · have hd : decide (8 * (q : Int) < (s.size : Int)) = false := by simp; omega
          have htp := HT.out (by omega)
          have htp2 : (getI X.data.toList ((X.size : Int) - 8) 8 != 0) = true := by
            rw [HXs.out]; simpa using htp
          have hcut : s.extract 0 X.size = X := by have := HXe.out; rwa [← HXs.out] at this
          clear htp
          go_wp2_with (first | (go_at_call 23; go_must (refine (HImp.out _).mono ?_); rintro e w5 ⟨rfl, hb5⟩; replace hb13 := hb13.trans (hb5.mono hb13.size)) | (go_at_call 14; go_must (refine (implGet_any _ _ _ _ hXm).mono ?_); rintro e w4 ⟨rfl, hb4⟩; replace hb13 := hb13.trans (hb4.mono hb13.size)))
          go_ret
          exact ⟨rfl, hb13⟩
end Go.Proofs.Ytliiffpegfkpbaa
