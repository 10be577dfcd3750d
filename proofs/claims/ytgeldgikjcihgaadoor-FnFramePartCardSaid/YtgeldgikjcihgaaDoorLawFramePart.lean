/- The walks of the laws FnFramePart and FnFrameTwo: true at every code. -/
import Derived.Test.YtgeldgikjcihgaaDoorDrawSeg
import Derived.Test.YtgeldgikjcihgaaDoorFramePutS
import Derived.Test.YtgeldgikjcihgaaDoorFrameGetI
import Derived.Test.YtgeldgikjcihgaaDoorFrameGetS
import Derived.Test.YtgeldgikjcihgaaDoorFgFrame
namespace Go.Proofs.YtgeldgikjcihgaaDoor
open Go.RowKit
set_option maxHeartbeats 4000000 in
theorem walkFnFramePart (w : World) (a : Option Addr) (len cap : Nat) (h : Arg w a len cap) (a2 : Option Addr) (len2 cap2 : Nat) (h2 : Arg w a2 len2 cap2) :
    Calls Tryd.prog 3 #[.slice a len cap, .slice a2 len2 cap2] w fun e w' => e = .returned (.bool true) ∧ Below w.heap.size w w' := by
  have hlen := h.1.1
  have hlen2 := h2.1.1
  unfold maxLen at hlen hlen2
  by_cases hbig : 1048576 < len
  · go_enter Tryd.func3, Tryd.ntmps3
    go_wp2
    go_ret
    exact ⟨rfl, Below.refl _ _⟩
  by_cases hbig2 : 1048576 < len2
  · go_enter Tryd.func3, Tryd.ntmps3
    go_wp2
    go_ret
    exact ⟨rfl, Below.refl _ _⟩
  go_enter Tryd.func3, Tryd.ntmps3
  go_wp2_with fail
  refine (drawFramePut_any a len cap _ h).mono ?_
  rintro e w1 ⟨A, cp, ss, rfl, hl, hall, hst, hb⟩
  have hn : ss.length ≤ 1048576 := by omega
  have htot : tot ss ≤ 13600 := Nat.le_trans (tot_le8 ss 1700 hall) (by omega)
  have HST := Lib.hid hst
  clear hst hall
  go_wp2_with fail
  refine (implFramePut_any A cp ss _ HST.out hn).mono ?_
  rintro e w2 ⟨rfl, hb2⟩
  replace HST := Lib.hid (HST.out.below hb2)
  replace hb := hb.trans (hb2.mono hb.size)
  have HSP : Hid (∀ w : World, Strs w A ss → Calls Tryd.prog 8 #[.slice A ss.length cp] w fun e w' => e = .returned (.string ⟨(frameL ss).toArray⟩) ∧ Below w.heap.size w w') := Lib.hid (fun w h => specFramePut_any A cp ss w h hn (by omega))
  clear hb2
  cases hok : frOk ss
  · have hX : frameL ss = [] := by rw [frameL, hok, if_neg (by simp)]
    rw [hX] at HSP ⊢
    clear hX hok
    go_wp2_with fail
    refine (HSP.out _ HST.out).mono ?_
    rintro e w3 ⟨rfl, hb3⟩
    replace HST := Lib.hid (HST.out.below hb3)
    replace hb := hb.trans (hb3.mono hb.size)
    go_wp2_with fail
    refine (HSP.out _ HST.out).mono ?_
    rintro e w4 ⟨rfl, hb4⟩
    replace hb := hb.trans (hb4.mono hb.size)
    go_wp2
    go_ret
    exact ⟨rfl, hb⟩
  · obtain ⟨hm8, hx8, hx16⟩ := fr_mod8 hok
    have hXl : (⟨(frameL ss).toArray⟩ : ByteArray).data.toList = frameL ss := rfl
    have hXs : (⟨(frameL ss).toArray⟩ : ByteArray).size = (frameL ss).length := by rw [mk_size]
    generalize (⟨(frameL ss).toArray⟩ : ByteArray) = X at HSP hXl hXs ⊢
    obtain ⟨k, hk, hkm⟩ : ∃ k : Nat, (len2 : Int).tmod (X.size : Int) = (k : Int) ∧ k < X.size := by
      refine ⟨len2 % X.size, ?_, Nat.mod_lt _ (by omega)⟩
      rw [Int.tmod_eq_emod_of_nonneg (by omega)]
      exact (Int.natCast_emod _ _).symm
    have hu : (X.extract 0 k).data.toList = (frameL ss).take k := by rw [Lib.extract_data, hXl]; simp
    have hfg := fg_part hok (X.extract 0 k) k (by omega) hu
    have hFG : Hid (∀ w : World, Calls Tryd.prog 9 #[.string (X.extract 0 k)] w fun e w' => ∃ v, e = .returned (.tuple #[v, .int .i64 0]) ∧ Below w.heap.size w w') := Lib.hid (fun w => by
      refine (implFrameGet_any (X.extract 0 k) w (by rw [ByteArray.size_extract]; omega)).mono ?_
      rintro e w' ⟨v, he, _, hb⟩
      rw [hfg] at he
      exact ⟨v, he, hb⟩)
    have he := str_not_empty X (by omega)
    have h8 : ((X.size : Int) % 8 == 0) = true := by rw [beq_iff_eq]; omega
    have hk2 : (k : Int) ≤ (X.size : Int) := by omega
    have hk0 : (0 : Int) ≤ (k : Int) := by omega
    have hx0 : ((X.size : Int) == 0) = false := beq_eq_false_iff_ne.2 (by omega)
    have hx9 : (1 : Int) ≤ (X.size : Int) := by omega
    clear hm8 hx8 hx16 hXl hXs hu hfg hok hkm
    go_wp2_with fail
    refine (HSP.out _ HST.out).mono ?_
    rintro e w3 ⟨rfl, hb3⟩
    replace hb := hb.trans (hb3.mono hb.size)
    clear hb3
    go_wp2_with fail
    refine (hFG.out _).mono ?_
    rintro e w4 ⟨v, rfl, hb4⟩
    replace hb := hb.trans (hb4.mono hb.size)
    clear hb4
    go_wp2
    go_ret
    exact ⟨rfl, hb⟩
set_option maxHeartbeats 400000 in
theorem qnTexts_same (A B : Option Addr) (c d : Nat) (ss : List ByteArray) (w : World) (h : Strs w A ss) (k : Strs w B ss) (hn : ss.length ≤ 1048576) :
    Calls Tryd.prog 10 #[.slice A ss.length c, .slice B ss.length d] w fun e w' => e = .returned (.bool true) ∧ Below w.heap.size w w' := by
  have H := Lib.hid h
  have K := Lib.hid k
  clear h k
  go_enter Tryd.func10, Tryd.ntmps10
  go_wp2
  go_loopw [5] (fun i wr => ∃ k : Nat, k ≤ ss.length ∧ i = .int .i64 k ∧ Hid (Below w.heap.size w wr)) (fun i _ => ss.length - (intOf i).toNat)
  case atStart => exact ⟨0, by omega, rfl, Below.refl _ _⟩
  case round =>
    obtain ⟨k, hk, rfl, HB⟩ := hrel
    by_cases hk1 : k < ss.length
    · obtain ⟨a, rfl, _, hc⟩ := (H.out.below HB.out).2.resolve_left (by intro h; rw [h] at hk1; simp at hk1)
      obtain ⟨b, rfl, _, hd⟩ := (K.out.below HB.out).2.resolve_left (by intro h; rw [h] at hk1; simp at hk1)
      have hck := hc k hk1
      have hdk := hd k hk1
      clear hc hd
      have i0 : (0 : Int) ≤ k := by omega
      have i1 : (k : Int) < ss.length := by omega
      go_wp2
      go_quiet (fail)
      go_wp2
      go_roundw
      case rel => exact ⟨k + 1, by omega, by go_num, below_drawn HB.out _⟩
      case measure => simp [intOf]; omega
    · go_wp2
      go_ret
      exact ⟨rfl, HB.out⟩
set_option maxHeartbeats 8000000 in
theorem walkFnFrameTwo (w : World) (a : Option Addr) (len cap : Nat) (h : Arg w a len cap) (a2 : Option Addr) (len2 cap2 : Nat) (h2 : Arg w a2 len2 cap2) :
    Calls Tryd.prog 4 #[.slice a len cap, .slice a2 len2 cap2] w fun e w' => e = .returned (.bool true) ∧ Below w.heap.size w w' := by
  have hlen := h.1.1
  have hlen2 := h2.1.1
  unfold maxLen at hlen hlen2
  by_cases hbig : 1048576 < len
  · go_enter Tryd.func4, Tryd.ntmps4
    go_wp2
    go_ret
    exact ⟨rfl, Below.refl _ _⟩
  by_cases hbig2 : 1048576 < len2
  · go_enter Tryd.func4, Tryd.ntmps4
    go_wp2
    go_ret
    exact ⟨rfl, Below.refl _ _⟩
  go_enter Tryd.func4, Tryd.ntmps4
  go_wp2_with fail
  refine (drawFramePut_any a len cap _ h).mono ?_
  rintro e w1 ⟨A, cp, ss, rfl, hl, hall, hst, hb⟩
  have hn : ss.length ≤ 1048576 := by omega
  have htot : tot ss ≤ 13600 := Nat.le_trans (tot_le8 ss 1700 hall) (by omega)
  have HST := Lib.hid hst
  clear hst hall
  go_wp2_with fail
  refine (drawFramePut_any a2 len2 cap2 _ (h2.below hb)).mono ?_
  rintro e w2 ⟨B, cq, tt, rfl, hl2, hall2, hst2, hb2⟩
  have hn2 : tt.length ≤ 1048576 := by omega
  have htot2 : tot tt ≤ 13600 := Nat.le_trans (tot_le8 tt 1700 hall2) (by omega)
  have HST2 := Lib.hid hst2
  replace HST := Lib.hid (HST.out.below hb2)
  replace hb := hb.trans (hb2.mono hb.size)
  clear hst2 hall2 hb2
  go_wp2_with fail
  refine (implFramePut_any A cp ss _ HST.out hn).mono ?_
  rintro e w3 ⟨rfl, hb3⟩
  replace HST := Lib.hid (HST.out.below hb3)
  replace HST2 := Lib.hid (HST2.out.below hb3)
  replace hb := hb.trans (hb3.mono hb.size)
  have HSP : Hid (∀ w : World, Strs w A ss → Calls Tryd.prog 8 #[.slice A ss.length cp] w fun e w' => e = .returned (.string ⟨(frameL ss).toArray⟩) ∧ Below w.heap.size w w') := Lib.hid (fun w h => specFramePut_any A cp ss w h hn (by omega))
  obtain ⟨X, hX⟩ : ∃ X, (⟨(frameL ss).toArray⟩ : ByteArray) = X := ⟨_, rfl⟩
  rw [hX] at HSP ⊢
  clear hb3
  go_wp2_with fail
  refine (implFramePut_any B cq tt _ HST2.out hn2).mono ?_
  rintro e w4 ⟨rfl, hb4⟩
  replace HST := Lib.hid (HST.out.below hb4)
  replace HST2 := Lib.hid (HST2.out.below hb4)
  replace hb := hb.trans (hb4.mono hb.size)
  obtain ⟨Y, hY⟩ : ∃ Y, (⟨(frameL tt).toArray⟩ : ByteArray) = Y := ⟨_, rfl⟩
  rw [hY]
  clear hb4
  have fin : ∀ ss : List ByteArray, ∀ X : ByteArray, (⟨(frameL ss).toArray⟩ : ByteArray) = X → frOk ss = false → X = ⟨#[]⟩ := fun ss X hX hok => by
    rw [← hX, frameL, hok, if_neg (by simp)]
  cases hok : frOk ss
  · have hX0 := fin ss X hX hok
    clear fin hX hY hok
    subst hX0
    go_wp2_with fail
    refine (HSP.out _ HST.out).mono ?_
    rintro e w5 ⟨rfl, hb5⟩
    replace HST := Lib.hid (HST.out.below hb5)
    replace hb := hb.trans (hb5.mono hb.size)
    go_wp2_with fail
    refine (HSP.out _ HST.out).mono ?_
    rintro e w6 ⟨rfl, hb6⟩
    replace hb := hb.trans (hb6.mono hb.size)
    go_wp2
    go_ret
    exact ⟨rfl, hb⟩
  obtain ⟨hm8, hx8, hx16⟩ := fr_mod8 hok
  have hXl : X.data.toList = frameL ss := by rw [← hX]
  have hXs : X.size = (frameL ss).length := by rw [← hX, mk_size]
  have he := str_not_empty X (by omega)
  cases hok2 : frOk tt
  · have hY0 := fin tt Y hY hok2
    clear fin hX hY hok hok2 hm8 hx8 hx16 hXl hXs
    subst hY0
    go_wp2_with fail
    refine (HSP.out _ HST.out).mono ?_
    rintro e w5 ⟨rfl, hb5⟩
    replace HST := Lib.hid (HST.out.below hb5)
    replace hb := hb.trans (hb5.mono hb.size)
    go_wp2_with fail
    refine (HSP.out _ HST.out).mono ?_
    rintro e w6 ⟨rfl, hb6⟩
    replace hb := hb.trans (hb6.mono hb.size)
    go_wp2
    go_ret
    exact ⟨rfl, hb⟩
  obtain ⟨hm8b, hy8, hy16⟩ := fr_mod8 hok2
  have hYl : Y.data.toList = frameL tt := by rw [← hY]
  have hYs : Y.size = (frameL tt).length := by rw [← hY, mk_size]
  have he2 := str_not_empty Y (by omega)
  have hxy : (X ++ Y).data.toList = frameL ss ++ frameL tt := by simp [hXl, hYl]
  have hcut : (X ++ Y).extract X.size (X.size + Y.size) = Y := by
    apply ext_ba
    rw [Lib.extract_data, hxy, hXs, List.drop_append_of_le_length (by omega), List.drop_of_length_le (by omega), List.nil_append, hYl, List.take_of_length_le]
    omega
  have hG1 := fg_frame hok (X ++ Y) (frameL tt) hxy
  have hG2 := fg_frame hok2 Y [] (by rw [hYl, List.append_nil])
  have hxys : (X ++ Y).size = X.size + Y.size := by simp
  have hmx : ∀ ss : List ByteArray, tot ss ≤ 13600 → ∀ x ∈ ss, x.size ≤ maxLen := fun ss ht x hx => by
    obtain ⟨i, hi, rfl⟩ := List.mem_iff_getElem.1 hx
    have := tot_get ss i hi
    unfold maxLen; omega
  have HMX := Lib.hid (hmx ss htot)
  have HMX2 := Lib.hid (hmx tt htot2)
  have H1 : Hid (∀ w : World, Calls Tryd.prog 9 #[.string (X ++ Y)] w fun e w' => ∃ A cap, e = .returned (.tuple #[.slice A ss.length cap, .int .i64 (X.size : Nat)]) ∧ Strs w' A ss ∧ Below w.heap.size w w') := Lib.hid (fun w => by
    refine (implFrameGet_any (X ++ Y) w (by rw [hxys]; omega)).mono ?_
    rintro e w' ⟨v, he, ho, hb⟩
    rw [hG1] at he ho
    obtain ⟨A, cap, rfl⟩ := own_shape ho
    exact ⟨A, cap, by rw [hXs]; exact he, strs_own ho HMX.out, hb⟩)
  have H2 : Hid (∀ w : World, Calls Tryd.prog 9 #[.string Y] w fun e w' => ∃ A cap, e = .returned (.tuple #[.slice A tt.length cap, .int .i64 (Y.size : Nat)]) ∧ Strs w' A tt ∧ Below w.heap.size w w') := Lib.hid (fun w => by
    refine (implFrameGet_any Y w (by omega)).mono ?_
    rintro e w' ⟨v, he, ho, hb⟩
    rw [hG2] at he ho
    obtain ⟨A, cap, rfl⟩ := own_shape ho
    exact ⟨A, cap, by rw [hYs]; exact he, strs_own ho HMX2.out, hb⟩)
  have f1 : ¬ 9223372036854775807 < X.size + Y.size := by omega
  have f2 : ((X.size : Nat) : Int) ≤ (((X ++ Y).size : Nat) : Int) := by omega
  have f3 : (0 : Int) ≤ ((X.size : Nat) : Int) := by omega
  have HCUT := Lib.hid hcut
  have HXYS := Lib.hid hxys
  generalize hZ : X ++ Y = Z at H1 HCUT f2 HXYS
  have HZ := Lib.hid hZ
  clear fin hX hY hok hok2 hm8 hx8 hx16 hXl hXs hm8b hy8 hy16 hYl hYs hxy hcut hG1 hG2 hxys hmx htot htot2 hZ
  go_wp2_with fail
  refine (HSP.out _ HST.out).mono ?_
  rintro e w5 ⟨rfl, hb5⟩
  replace HST := Lib.hid (HST.out.below hb5)
  replace HST2 := Lib.hid (HST2.out.below hb5)
  replace hb := hb.trans (hb5.mono hb.size)
  clear hb5
  go_wp2_with fail
  rw [HZ.out]
  refine (H1.out _).mono ?_
  rintro e w6 ⟨A6, c6, rfl, st6, hb6⟩
  have ST6 := Lib.hid st6
  replace HST := Lib.hid (HST.out.below hb6)
  replace HST2 := Lib.hid (HST2.out.below hb6)
  replace hb := hb.trans (hb6.mono hb.size)
  clear hb6 st6
  go_wp2_with fail
  rw [HZ.out, HCUT.out]
  refine (H2.out _).mono ?_
  rintro e w7 ⟨A7, c7, rfl, st7, hb7⟩
  have ST7 := Lib.hid st7
  replace ST6 := Lib.hid (ST6.out.below hb7)
  replace HST := Lib.hid (HST.out.below hb7)
  replace HST2 := Lib.hid (HST2.out.below hb7)
  replace hb := hb.trans (hb7.mono hb.size)
  clear hb7 st7
  go_wp2_with fail
  refine (qnTexts_same A6 A c6 cp ss w7 ST6.out HST.out hn).mono ?_
  rintro e w8 ⟨rfl, hb8⟩
  replace ST7 := Lib.hid (ST7.out.below hb8)
  replace HST2 := Lib.hid (HST2.out.below hb8)
  replace hb := hb.trans (hb8.mono hb.size)
  clear hb8
  go_wp2_with fail
  refine (qnTexts_same A7 B c7 cq tt w8 ST7.out HST2.out hn2).mono ?_
  rintro e w9 ⟨rfl, hb9⟩
  replace hb := hb.trans (hb9.mono hb.size)
  go_wp2
  go_ret
  exact ⟨rfl, hb⟩
end Go.Proofs.YtgeldgikjcihgaaDoor
