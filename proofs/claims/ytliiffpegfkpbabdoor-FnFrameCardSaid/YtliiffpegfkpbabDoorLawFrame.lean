/- The walk of the law FnFrame. -/
import Derived.Test.YtliiffpegfkpbabDoorDrawFG
import Derived.Test.YtliiffpegfkpbabDoorFgBack
import Derived.Test.YtliiffpegfkpbabDoorFrameGetI
import Derived.Test.YtliiffpegfkpbabDoorFrameGetS
import Derived.Test.YtliiffpegfkpbabDoorFrameOk
import Derived.Test.YtliiffpegfkpbabDoorLawFramePart
import Derived.Deep.RegionWith
import Derived.Lib.QuietBelow
import Derived.BigQuiet
namespace Go.Proofs.YtliiffpegfkpbabDoor
open Go.RowKit
set_option maxHeartbeats 8000000 in
set_option maxRecDepth 100000 in
theorem walkFnFrame (w : World) (a : Option Addr) (len cap : Nat) (h : Arg w a len cap) (a2 : Option Addr) (len2 cap2 : Nat) (h2 : Arg w a2 len2 cap2) :
    Calls Tryd.prog 3 #[.slice a len cap, .slice a2 len2 cap2] w fun e w' => e = .returned (.bool true) ∧ Below w.heap.size w w' := by
  have hlen := h.1.1
  have hlen2 := h2.1.1
  unfold maxLen at hlen hlen2
  by_cases hbig : 1048576 < len
  · go_enter Tryd.func3, Tryd.ntmps3
    go_wp2
    go_ret
    exact ⟨rfl, Below.refl _ _⟩
  by_cases hbig2 : 1048576 < len2
  · go_enter Tryd.func3, Tryd.ntmps3
    go_wp2
    go_ret
    exact ⟨rfl, Below.refl _ _⟩
  go_enter Tryd.func3, Tryd.ntmps3
  go_wp2_with fail
  refine (drawFramePut_any a len cap _ h).mono ?_
  rintro e w1 ⟨A, cp, ss, rfl, hl, hall, hst, hb⟩
  have hn : ss.length ≤ 1048576 := by omega
  have htot : tot ss ≤ 13600 := Nat.le_trans (tot_le8 ss 1700 hall) (by omega)
  have HST := Lib.hid hst
  clear hst hall
  have h2b := h2.below hb
  have HA2 := Lib.hid h2b
  clear h2 h2b
  go_wp2_with fail
  refine (implFramePut_any A cp ss _ HST.out hn).mono ?_
  rintro e w3 ⟨rfl, hb3⟩
  replace HST := Lib.hid (HST.out.below hb3)
  replace HA2 := Lib.hid (HA2.out.below hb3)
  replace hb := hb.trans (hb3.mono hb.size)
  clear hb3
  have HSP : Hid (∀ w : World, Strs w A ss → Calls Tryd.prog 9 #[.slice A ss.length cp] w fun e w' => e = .returned (.string ⟨(frameL ss).toArray⟩) ∧ Below w.heap.size w w') := Lib.hid (fun w h => specFramePut_any A cp ss w h hn (by omega))
  have HSO := Lib.hid (fun (w : World) h => specFrameOk_any A cp ss w h hn (by omega))
  have HIO := Lib.hid (fun (w : World) h => implFrameOk_any A cp ss w h hn)
  obtain ⟨X, hX⟩ : ∃ X, (⟨(frameL ss).toArray⟩ : ByteArray) = X := ⟨_, rfl⟩
  rw [hX] at HSP ⊢
  go_wp2_with fail
  refine (HSP.out _ HST.out).mono ?_
  rintro e w4 ⟨rfl, hb4⟩
  replace HST := Lib.hid (HST.out.below hb4)
  replace HA2 := Lib.hid (HA2.out.below hb4)
  replace hb := hb.trans (hb4.mono hb.size)
  clear hb4
  cases hok : frOk ss
  · have HOK := Lib.hid hok
    have hX0 : X = ⟨#[]⟩ := by rw [← hX, frameL, hok, if_neg (by simp)]
    clear hX hok
    subst hX0
    go_wp2_with (first | (go_at_call 10; refine (HIO.out _ HST.out).mono ?_; rintro e w' ⟨rfl, rfl⟩; rw [HOK.out]) | (go_at_call 11; refine (HSO.out _ HST.out).mono ?_; rintro e w' ⟨rfl, rfl⟩; rw [HOK.out]))
    refine (drawFrameGet_any a2 len2 cap2 _ HA2.out).mono ?_
    rintro e w5 ⟨T, hT, rfl, hb5⟩
    replace HST := Lib.hid (HST.out.below hb5)
    have HB5 := Lib.hid (hb.trans (hb5.mono hb.size))
    have hys := fg_length T
    have hysz := fg_size T
    have hbk : ∀ n : Nat, (fg T).1 = (n : Int) → 0 < n → (⟨(frameL (fg T).2).toArray⟩ : ByteArray) = T.extract 0 n ∧ n ≤ T.size := fun n h1 h2 => by
      obtain ⟨_, h3, h4⟩ := fg_back h1 h2
      refine ⟨ext_ba ?_, h4⟩
      rw [h3, Lib.extract_data]
      simp
    have HTI' := fun w => implFrameGet_any T w (by omega)
    have HTS' := fun w => specFrameGet_any T w (by omega)
    unfold FG at HTI'
    unfold SG at HTS'
    obtain ⟨c, hc⟩ : ∃ c, (fg T).1 = c := ⟨_, rfl⟩
    obtain ⟨ys, hyy⟩ : ∃ ys, (fg T).2 = ys := ⟨_, rfl⟩
    rw [hc, hyy] at HTI' HTS'
    rw [hyy] at hys hysz hbk
    rw [hc] at hbk
    have hback : ¬ c < 1 → ∃ n : Nat, c = (n : Int) ∧ (⟨(frameL ys).toArray⟩ : ByteArray) = T.extract 0 n ∧ 0 < n ∧ n ≤ T.size := fun h => by
      obtain ⟨n, rfl⟩ := Int.eq_ofNat_of_zero_le (show 0 ≤ c by omega)
      obtain ⟨h1, h2⟩ := hbk n rfl (by omega)
      exact ⟨n, rfl, h1, by omega, h2⟩
    have HTI : Hid (∀ w : World, Calls Tryd.prog 13 #[.string T] w fun e w' => ∃ A cap, e = .returned (.tuple #[.slice A ys.length cap, .int .i64 c]) ∧ Strs w' A ys ∧ Below w.heap.size w w') := Lib.hid (fun w => by
      refine (HTI' w).mono ?_
      rintro e w' ⟨v, rfl, ho, hb⟩
      obtain ⟨A, cap, rfl⟩ := own_shape ho
      exact ⟨A, cap, rfl, strs_own ho (fun x hx => by have := hysz x hx; unfold maxLen; omega), hb⟩)
    have HTS := Lib.hid HTS'
    clear HTI' HTS' hbk hc hyy hysz hb hb5
    go_wp2_with fail
    have HB7 := HB5
    refine (HTI.out _).mono ?_
    rintro e w8 ⟨A8, c8, rfl, st8, hb8⟩
    have ST8 := Lib.hid st8
    have HB8 := Lib.hid (HB7.out.trans (hb8.mono HB7.out.size))
    clear st8 hb8
    go_wp2_with fail
    refine (HTS.out _).mono ?_
    rintro e w9 ⟨A9, c9, rfl, st9, hb9⟩
    have ST9 := Lib.hid st9
    replace ST8 := Lib.hid (ST8.out.below hb9)
    have HB9 := Lib.hid (HB8.out.trans (hb9.mono HB8.out.size))
    clear st9 hb9
    have HQT : Hid (∀ W, Below w9.heap.size w9 W → Calls Tryd.prog 14 #[.slice A8 ys.length c8, .slice A9 ys.length c9] W fun e w' => e = .returned (.bool true) ∧ Below W.heap.size W w') := Lib.hid (fun W hW => qnTexts_same A8 A9 c8 c9 ys W (ST8.out.below hW) (ST9.out.below hW) (by omega))
    have hs9 := HB9.out.size
    by_cases hc1 : c < 1
    · clear hback hys
      go_wp2_with fail
      refine wp_region_quiet_below (by kernel_rfl) (by kernel_rfl) ?_
      repeat (first | go_big_quiet_step ((go_at_call 14; exact Calls.regrown_of (HQT.out _ (below_regrown w9 _ _)))) | quiet_step ((go_at_call 14; exact Calls.regrown_of (HQT.out _ (below_regrown w9 _ _)))))
      refine wpQuiet_nil ?_
      intro _ hw'
      obtain ⟨⟨dq, osq⟩, hw''⟩ := hw'
      subst hw''
      have HFIN := Lib.hid (HB9.out.trans ((below_regrown w9 dq osq).mono hs9))
      generalize «Sort».grow (redrawn w9 dq) osq = W1 at HFIN ⊢
      go_wp2
      go_ret
      exact ⟨rfl, HFIN.out⟩
    · obtain ⟨n, rfl, hfr, hn0, hnT⟩ := hback (by omega)
      have HFR := Lib.hid hfr
      have HFP : Hid (∀ W, Below w9.heap.size w9 W → Calls Tryd.prog 8 #[.slice A8 ys.length c8] W fun e w' => e = .returned (.string (T.extract 0 n)) ∧ Below W.heap.size W w') := Lib.hid (fun W hW => by
        have := implFramePut_any A8 c8 ys W (ST8.out.below hW) (by omega)
        rw [HFR.out] at this
        exact this)
      have hnc : ¬ (n : Int) < 1 := by omega
      have hn1 : (n : Int) ≤ ((T.size : Nat) : Int) := by omega
      have hn2 : (0 : Int) ≤ (n : Int) := by omega
      clear hback hfr hys
      go_wp2_with fail
      refine wp_region_quiet_below (by kernel_rfl) (by kernel_rfl) ?_
      repeat (first | go_big_quiet_step (first | (go_at_call 14; exact Calls.regrown_of (HQT.out _ (below_regrown w9 _ _))) | (go_at_call 8; exact Calls.regrown_of (HFP.out _ (below_regrown w9 _ _)))) | quiet_step (first | (go_at_call 14; exact Calls.regrown_of (HQT.out _ (below_regrown w9 _ _))) | (go_at_call 8; exact Calls.regrown_of (HFP.out _ (below_regrown w9 _ _)))))
      refine wpQuiet_nil ?_
      intro _ hw'
      obtain ⟨⟨dq, osq⟩, hw''⟩ := hw'
      subst hw''
      have HFIN := Lib.hid (HB9.out.trans ((below_regrown w9 dq osq).mono hs9))
      generalize «Sort».grow (redrawn w9 dq) osq = W1 at HFIN ⊢
      go_wp2
      go_ret
      exact ⟨rfl, HFIN.out⟩
  · have HOK := Lib.hid hok
    obtain ⟨hm8, hx8, hx16⟩ := fr_mod8 hok
    have hXl : X.data.toList = frameL ss := by rw [← hX]
    have hXs : X.size = (frameL ss).length := by rw [← hX, mk_size]
    have he := str_not_empty X (by omega)
    have hx17 : X.size ≤ 1632 := by omega
    have hG : ∀ T : ByteArray, fg (X ++ T) = (((X.size : Nat) : Int), ss) := fun T => by
      rw [fg_frame hok (X ++ T) T.data.toList (by simp [hXl]), hXs]
    have hmx : ∀ x ∈ ss, x.size ≤ maxLen := fun x hx => by
      obtain ⟨i, hi, rfl⟩ := List.mem_iff_getElem.1 hx
      have := tot_get ss i hi
      unfold maxLen; omega
    have HG : Hid (∀ (T : ByteArray) (w : World), T.size ≤ 5000 → Calls Tryd.prog 13 #[.string (X ++ T)] w fun e w' => ∃ A cap, e = .returned (.tuple #[.slice A ss.length cap, .int .i64 (X.size : Nat)]) ∧ Strs w' A ss ∧ Below w.heap.size w w') := Lib.hid (fun T w hT => by
      refine (implFrameGet_any (X ++ T) w (by simp; omega)).mono ?_
      rintro e w' ⟨v, he, ho, hb⟩
      rw [hG T] at he ho
      obtain ⟨A, cap, rfl⟩ := own_shape ho
      exact ⟨A, cap, he, strs_own ho hmx, hb⟩)
    clear hX hok hm8 hx8 hx16 hXl hXs hG hmx
    go_wp2_with (first | (go_at_call 10; refine (HIO.out _ HST.out).mono ?_; rintro e w' ⟨rfl, rfl⟩; rw [HOK.out]) | (go_at_call 11; refine (HSO.out _ HST.out).mono ?_; rintro e w' ⟨rfl, rfl⟩; rw [HOK.out]))
    refine (drawFrameGet_any a2 len2 cap2 _ HA2.out).mono ?_
    rintro e w5 ⟨T, hT, rfl, hb5⟩
    replace HST := Lib.hid (HST.out.below hb5)
    have HB5 := Lib.hid (hb.trans (hb5.mono hb.size))
    have hys := fg_length T
    have hysz := fg_size T
    have hbk : ∀ n : Nat, (fg T).1 = (n : Int) → 0 < n → (⟨(frameL (fg T).2).toArray⟩ : ByteArray) = T.extract 0 n ∧ n ≤ T.size := fun n h1 h2 => by
      obtain ⟨_, h3, h4⟩ := fg_back h1 h2
      refine ⟨ext_ba ?_, h4⟩
      rw [h3, Lib.extract_data]
      simp
    have HTI' := fun w => implFrameGet_any T w (by omega)
    have HTS' := fun w => specFrameGet_any T w (by omega)
    unfold FG at HTI'
    unfold SG at HTS'
    obtain ⟨c, hc⟩ : ∃ c, (fg T).1 = c := ⟨_, rfl⟩
    obtain ⟨ys, hyy⟩ : ∃ ys, (fg T).2 = ys := ⟨_, rfl⟩
    rw [hc, hyy] at HTI' HTS'
    rw [hyy] at hys hysz hbk
    rw [hc] at hbk
    have hback : ¬ c < 1 → ∃ n : Nat, c = (n : Int) ∧ (⟨(frameL ys).toArray⟩ : ByteArray) = T.extract 0 n ∧ 0 < n ∧ n ≤ T.size := fun h => by
      obtain ⟨n, rfl⟩ := Int.eq_ofNat_of_zero_le (show 0 ≤ c by omega)
      obtain ⟨h1, h2⟩ := hbk n rfl (by omega)
      exact ⟨n, rfl, h1, by omega, h2⟩
    have HTI : Hid (∀ w : World, Calls Tryd.prog 13 #[.string T] w fun e w' => ∃ A cap, e = .returned (.tuple #[.slice A ys.length cap, .int .i64 c]) ∧ Strs w' A ys ∧ Below w.heap.size w w') := Lib.hid (fun w => by
      refine (HTI' w).mono ?_
      rintro e w' ⟨v, rfl, ho, hb⟩
      obtain ⟨A, cap, rfl⟩ := own_shape ho
      exact ⟨A, cap, rfl, strs_own ho (fun x hx => by have := hysz x hx; unfold maxLen; omega), hb⟩)
    have HTS := Lib.hid HTS'
    clear HTI' HTS' hbk hc hyy hysz hb hb5
    have f1 : ¬ 9223372036854775807 < X.size + T.size := by omega
    go_wp2_with fail
    refine (HG.out T _ hT).mono ?_
    rintro e w6 ⟨A6, c6, rfl, st6, hb6⟩
    have ST6 := Lib.hid st6
    replace HST := Lib.hid (HST.out.below hb6)
    have HB6 := Lib.hid (HB5.out.trans (hb6.mono HB5.out.size))
    clear st6 hb6
    go_wp2_with fail
    refine (qnTexts_same A6 A c6 cp ss w6 ST6.out HST.out hn).mono ?_
    rintro e w7 ⟨rfl, hb7⟩
    have HB7 := Lib.hid (HB6.out.trans (hb7.mono HB6.out.size))
    clear hb7
    go_wp2_with fail
    refine (HTI.out _).mono ?_
    rintro e w8 ⟨A8, c8, rfl, st8, hb8⟩
    have ST8 := Lib.hid st8
    have HB8 := Lib.hid (HB7.out.trans (hb8.mono HB7.out.size))
    clear st8 hb8
    go_wp2_with fail
    refine (HTS.out _).mono ?_
    rintro e w9 ⟨A9, c9, rfl, st9, hb9⟩
    have ST9 := Lib.hid st9
    replace ST8 := Lib.hid (ST8.out.below hb9)
    have HB9 := Lib.hid (HB8.out.trans (hb9.mono HB8.out.size))
    clear st9 hb9
    have HQT : Hid (∀ W, Below w9.heap.size w9 W → Calls Tryd.prog 14 #[.slice A8 ys.length c8, .slice A9 ys.length c9] W fun e w' => e = .returned (.bool true) ∧ Below W.heap.size W w') := Lib.hid (fun W hW => qnTexts_same A8 A9 c8 c9 ys W (ST8.out.below hW) (ST9.out.below hW) (by omega))
    have hs9 := HB9.out.size
    by_cases hc1 : c < 1
    · clear hback hys
      go_wp2_with fail
      refine wp_region_quiet_below (by kernel_rfl) (by kernel_rfl) ?_
      repeat (first | go_big_quiet_step ((go_at_call 14; exact Calls.regrown_of (HQT.out _ (below_regrown w9 _ _)))) | quiet_step ((go_at_call 14; exact Calls.regrown_of (HQT.out _ (below_regrown w9 _ _)))))
      refine wpQuiet_nil ?_
      intro _ hw'
      obtain ⟨⟨dq, osq⟩, hw''⟩ := hw'
      subst hw''
      have HFIN := Lib.hid (HB9.out.trans ((below_regrown w9 dq osq).mono hs9))
      generalize «Sort».grow (redrawn w9 dq) osq = W1 at HFIN ⊢
      go_wp2
      go_ret
      exact ⟨rfl, HFIN.out⟩
    · obtain ⟨n, rfl, hfr, hn0, hnT⟩ := hback (by omega)
      have HFR := Lib.hid hfr
      have HFP : Hid (∀ W, Below w9.heap.size w9 W → Calls Tryd.prog 8 #[.slice A8 ys.length c8] W fun e w' => e = .returned (.string (T.extract 0 n)) ∧ Below W.heap.size W w') := Lib.hid (fun W hW => by
        have := implFramePut_any A8 c8 ys W (ST8.out.below hW) (by omega)
        rw [HFR.out] at this
        exact this)
      have hnc : ¬ (n : Int) < 1 := by omega
      have hn1 : (n : Int) ≤ ((T.size : Nat) : Int) := by omega
      have hn2 : (0 : Int) ≤ (n : Int) := by omega
      clear hback hfr hys
      go_wp2_with fail
      refine wp_region_quiet_below (by kernel_rfl) (by kernel_rfl) ?_
      repeat (first | go_big_quiet_step (first | (go_at_call 14; exact Calls.regrown_of (HQT.out _ (below_regrown w9 _ _))) | (go_at_call 8; exact Calls.regrown_of (HFP.out _ (below_regrown w9 _ _)))) | quiet_step (first | (go_at_call 14; exact Calls.regrown_of (HQT.out _ (below_regrown w9 _ _))) | (go_at_call 8; exact Calls.regrown_of (HFP.out _ (below_regrown w9 _ _)))))
      refine wpQuiet_nil ?_
      intro _ hw'
      obtain ⟨⟨dq, osq⟩, hw''⟩ := hw'
      subst hw''
      have HFIN := Lib.hid (HB9.out.trans ((below_regrown w9 dq osq).mono hs9))
      generalize «Sort».grow (redrawn w9 dq) osq = W1 at HFIN ⊢
      go_wp2
      go_ret
      exact ⟨rfl, HFIN.out⟩
end Go.Proofs.YtliiffpegfkpbabDoor
