/- Texts of the proof of the law FnSend, side by side: part 39. -/
import Derived.Test.YtlbfffokkhccaaaGreatDoorMSend38
set_option maxHeartbeats 8000000
set_option maxRecDepth 100000
namespace Go.Proofs.YtlbfffokkhccaaaGreatDoor
open Go.RowKit
def packB (l : List UInt8) : List UInt8 := if wordsB l.length then packW (wl (wordsQ l)) else []
theorem Coll.ws {B : Nat} {v : Value} {l : List W8} {W : World} (h : Coll B v l W) : ∃ A cap, v = .slice A (wl l).length cap ∧ ∀ b, W.heap.size ≤ b → WS (b + 1) b W v (wl l) := by
 have hr := h
 rcases hr.2 with ⟨rfl, h0⟩ | ⟨g, cap, cur, rfl, hB, hg, h1, h2, h3, h4⟩
 · have hl : wl l = [] := by rw [List.eq_nil_of_length_eq_zero h0]; rfl
   exact ⟨none, 0, by rw [hl]; rfl, fun b hb => by rw [hl]; exact WS.empty _ _ _ _ _ (by omega)⟩
 · have hlt := (Array.getElem?_eq_some_iff.1 hg).1
   refine ⟨some ⟨g, 0, none⟩, cap, by rw [wl_len], fun b hb => ⟨some ⟨g, 0, none⟩, cap, by rw [wl_len], by rw [wl_len]; exact h1, by unfold maxLen at h2; omega, wl_wds l, .inr ⟨g, 0, rfl, by omega, by omega, fun j u hu => ?_⟩⟩⟩
   rw [Nat.zero_add, cell_of_row _ _ _ _ _ _ hg]
   rw [← h4, List.getElem?_take] at hu
   split at hu
   · simpa using hu
   · cases hu
theorem implPack_any (s : ByteArray) (w : World) (hs : s.size ≤ maxLen) :
 Calls Tryz.prog 50 #[.string s] w fun e w' => e = .returned (.string ⟨(packB s.data.toList).toArray⟩) ∧ Below w.heap.size w w' := by
 have hsl : s.data.toList.length = s.size := by simp
 cases hw : wordsB s.size
 · have hT : packB s.data.toList = [] := by rw [packB, hsl, hw, if_neg (by simp)]
   rw [hT]
   clear hsl hT
   go_enter Tryz.func50, Tryz.ntmps50
   go_wp2_with (go_at_call 48; refine (isWords_any _ _ hs).mono ?_; rintro e w' ⟨rfl, rfl⟩)
   go_ret
   exact ⟨rfl, Below.refl _ _⟩
 · have hT : packB s.data.toList = packW (wl (wordsQ s.data.toList)) := by rw [packB, hsl, hw, if_pos rfl]
   have hw8 : s.size % 8 = 0 ∧ s.size ≤ 1600 := by simpa [wordsB] using hw
   have hwl : (wl (wordsQ s.data.toList)).length ≤ 200 := by rw [wl_len, wordsQ_length, hsl]; omega
   have hpl := pack_len (wl_wds (wordsQ s.data.toList))
   rw [hT]
   have HCo := Lib.hid (fun Wx h => callsIn_wide.1 (collect_in s Wx hw8.2 w.heap.size h))
   clear hsl hT hw8
   generalize hws : wordsQ s.data.toList = wq at HCo hwl hpl ⊢
   obtain ⟨R, hR⟩ : ∃ R, packW (wl wq) = R := ⟨_, rfl⟩
   rw [hR] at hpl ⊢
   have HR := Lib.hid hR
   have HWl := Lib.hid hwl
   have HRl : Hid (R.length ≤ 100000) := Lib.hid (by omega)
   clear hws hR hwl hpl
   go_enter Tryz.func50, Tryz.ntmps50
   go_wp2_with (first | (go_at_call 48; refine (isWords_any _ _ hs).mono ?_; rintro e w' ⟨rfl, rfl⟩; rw [hw]) | (go_at_call 96; refine (callsIn_wide.1 (wordsOf_in2 5 s _)).mono ?_; rintro e w' ⟨rfl, rfl⟩))
   refine (HCo.out _ (Boxed.new w 9 (.string s))).mono ?_
   rintro e w1 ⟨v, rfl, hcoll, hb1⟩
   obtain ⟨A, cap, rfl, hws⟩ := hcoll.ws
   have hWS := hws w1.heap.size (Nat.le_refl _)
   have hbb1 : Below w.heap.size w w1 := ((Below.refl _ w).alloc (Nat.le_refl _) (.cells #[.string s] 9)).trans (hb1.mono (by simp))
   clear hws hcoll hb1
   generalize hn : (wl wq).length = n at hWS HWl
   have HN := Lib.hid hn
   have h0 := heap_alloc_new w1 (.cells #[.pointer none, .slice none 0 0, .slice A n cap] 154)
   have hb0 : Below w1.heap.size w1 (w1.alloc (.cells #[.pointer none, .slice none 0 0, .slice A n cap] 154)) := (Below.refl _ _).alloc (Nat.le_refl _) _
   obtain ⟨w2, hw2⟩ : ∃ w2, w1.alloc (.cells #[.pointer none, .slice none 0 0, .slice A n cap] 154) = w2 := ⟨_, rfl⟩
   have hsz : w2.heap.size = w1.heap.size + 1 := by rw [← hw2]; simp
   rw [hw2] at h0 hb0
   have hU : PS (w1.heap.size + 1) w1.heap.size [] (.slice A n cap) (wl wq) w2 := by
    refine ⟨BF.fresh (w1.heap.size + 1) h0, ?_⟩
    obtain ⟨A', cap', e1, e2, e3, e4, e5⟩ := hWS
    refine ⟨A', cap', e1, e2, e3, e4, e5.imp id ?_⟩
    rintro ⟨g, o, ha, hg, hne, hr⟩
    exact ⟨g, o, ha, hg, hne, fun j u hu => (hb0.cell (p := ⟨g, o + j, none⟩) (show g < w1.heap.size by omega)).trans (hr j u hu)⟩
   have hrun := prun_any R (w1.heap.size + 1) w1.heap.size _ (pTag w1.heap.size) w2 ⟨[], _, _, hU, by rw [hn]; exact HWl.out, .inl ⟨rfl, by rw [List.nil_append]; exact HR.out, Nat.le_refl _⟩⟩ (by omega) HRl.out
   have HRun := Lib.hid hrun
   have HW2 := Lib.hid hw2
   have HB0 := Lib.hid (hbb1.trans (hb0.mono hbb1.size))
   have HLe := Lib.hid hbb1.size
   clear h0 hb0 hU hrun hw2 hWS hbb1 hn
   unfold pTag at HRun
   go_wp2_with fail
   rw [HW2.out]
   refine HRun.out.mono ?_
   rintro e w3 ⟨rfl, ⟨k, hj⟩, hk⟩
   have HK := Lib.hid (HB0.out.trans (hk.below (Nat.le_trans HLe.out (Nat.le_succ _)) HLe.out))
   have hB2 := hk.size
   obtain ⟨v', ws', hp⟩ := hj.ended
   have HS := Lib.hid (fstring_any 154 (w1.heap.size + 1) w1.heap.size R [v'] w3 hp.1 (by omega))
   clear hj hp hk
   go_wp2_with fail
   refine HS.out.mono ?_
   rintro e w4 ⟨rfl, hb3⟩
   have HB3 := Lib.hid (HK.out.trans (hb3.mono (Nat.le_trans HLe.out (Nat.le_succ _))))
   clear hb3
   go_wp2
   go_ret
   exact ⟨rfl, HB3.out⟩
theorem sz_len (a : ByteArray) : a.size = a.data.toList.length := rfl
theorem out_sz {a : ByteArray} {l R : List UInt8} (h : a.data.toList ++ l = R) : a.size ≤ R.length := by rw [sz_len, ← h, List.length_append]; omega
theorem ba_app (a b : ByteArray) : (a ++ b).data.toList = a.data.toList ++ b.data.toList := by simp
theorem conv1 (c : Nat) (hc : c < 256) (W : World) : (convert 22 9 (.slice (some ⟨W.heap.size, 0, none⟩) 1 1)).run Tryz.prog (W.alloc (.cells #[.int .u8 (c : Int)] 5)) = .ok (.string ⟨#[UInt8.ofNat c]⟩) (W.alloc (.cells #[.int .u8 (c : Int)] 5)) := by
 refine convert_wd _ _ _ 5 W.heap.size 1 1 [UInt8.ofNat c] rfl Tryz.underlying22 Tryz.underlying5 Tryz.underlying9 (heap_alloc_new W _) ?_
 have : (UInt8.ofNat c).toNat = c := by rw [UInt8.toNat_ofNat']; omega
 simp [Lib.byteCells]; omega
theorem flat_take (ws : List (List UInt8)) (n : Nat) (hw : Wds ws) (hn : n ≤ ws.length) : ws.flatten.take (8 * n) = (ws.take n).flatten := by
 have h : ws.flatten = (ws.take n).flatten ++ (ws.drop n).flatten := by rw [← List.flatten_append, List.take_append_drop]
 have hl : (ws.take n).flatten.length = 8 * n := by rw [flat_length (hw.take n), List.length_take]; omega
 rw [h, List.take_append_of_le_length (by omega), List.take_of_length_le (by omega)]
theorem ext_words {s : ByteArray} {ws : List (List UInt8)} (h : s.data.toList = ws.flatten) (hw : Wds ws) (k n a b : Nat) (ha : a = 8 * k) (hb : b = 8 * (k + n)) (hk : k + n ≤ ws.length) : s.extract a b = ⟨((ws.drop k).take n).flatten.toArray⟩ := by
 apply ext_ba
 rw [Lib.extract_data, h, ha, hb, flat_drop ws k hw (by omega), show 8 * (k + n) - 8 * k = 8 * n by omega, flat_take _ n (hw.drop k) (by rw [List.length_drop]; omega)]
theorem ext_word1 {s : ByteArray} {ws : List (List UInt8)} (h : s.data.toList = ws.flatten) (hw : Wds ws) (k a b : Nat) (ha : a = 8 * k) (hb : b = 8 * (k + 1)) (hk : k < ws.length) : s.extract a b = ⟨ws[k].toArray⟩ := by
 rw [ext_words h hw k 1 a b ha hb hk, List.drop_eq_getElem_cons hk, List.take_succ_cons, List.take_zero, List.flatten_cons, List.flatten_nil, List.append_nil]
theorem ext_byte (x : List UInt8) (j : Nat) (h : j < x.length) : ((⟨x.toArray⟩ : ByteArray).extract j (j + 1)).data.toList = [x[j]] := by
 rw [Lib.extract_data, List.drop_eq_getElem_cons (by simpa using h), show j + 1 - j = 0 + 1 by omega, List.take_succ_cons, List.take_zero]
theorem run_stops (p : List UInt8 → Bool) (r : List (List UInt8)) : runN p r = 255 ∨ runN p r = r.length ∨ ∃ h : runN p r < r.length, p r[runN p r] = false := by
 obtain ⟨h1, h2⟩ := runN_le p r
 by_cases h3 : runN p r = 255
 · exact .inl h3
 by_cases h4 : runN p r = r.length
 · exact .inr (.inl h4)
 have hlt : runN p r < r.length := by omega
 have := tw_next p (r.take 255) (runN p r) (by rw [List.length_take]; omega) rfl
 rw [List.getElem_take] at this
 exact .inr (.inr ⟨hlt, this⟩)
theorem run_at (p : List UInt8 → Bool) (r : List (List UInt8)) (j : Nat) (h : j < runN p r) (hj : j < r.length) : p r[j] = true :=
 run_all p r _ (by rw [List.mem_take_iff_getElem]; exact ⟨j, by omega, rfl⟩)
theorem pack_zer0 (x : List UInt8) (r : List (List UInt8)) (h : maskN x = 0) : packW (x :: r) = UInt8.ofNat (maskN x) :: (nzL x ++ (UInt8.ofNat (runN zerL r) :: packW (r.drop (runN zerL r)))) := by
 have hz := (maskN_zero x).1 h
 have hn : nzL x = [] := by
  rw [nzL, List.filter_eq_nil_iff]
  intro b hb
  have := List.all_eq_true.1 hz b hb
  simpa using this
 rw [packW, if_pos hz, hn, h]; rfl
theorem pack_full0 (x : List UInt8) (r : List (List UInt8)) (h8 : x.length = 8) (h : maskN x = 255) : packW (x :: r) = UInt8.ofNat (maskN x) :: (nzL x ++ (UInt8.ofNat (runN fewL r) :: ((r.take (runN fewL r)).flatten ++ packW (r.drop (runN fewL r))))) := by
 have hf := (mask8_full h8).1 h
 have hz : zerL x = false := by
  cases hz : zerL x
  · rfl
  · have := (maskN_zero x).2 hz; omega
 rw [packW, hz, if_neg (by simp), if_pos hf, nz_full hf, h]; rfl
theorem pack_some0 (x : List UInt8) (r : List (List UInt8)) (h8 : x.length = 8) (h0 : maskN x ≠ 0) (h : maskN x ≠ 255) : packW (x :: r) = UInt8.ofNat (maskN x) :: (nzL x ++ packW r) := by
 have hf : fullL x = false := by
  cases hf : fullL x
  · rfl
  · exact absurd ((mask8_full h8).2 hf) h
 have hz : zerL x = false := by
  cases hz : zerL x
  · rfl
  · exact absurd ((maskN_zero x).2 hz) h0
 rw [packW, hz, hf, if_neg (by simp), if_neg (by simp)]
theorem l3Pack_any (s : ByteArray) (ws : List (List UInt8)) (w : World) (hsw : s.data.toList = ws.flatten) (hw : Wds ws) (hl : ws.length ≤ 200) :
 Calls Tryz.prog 53 #[.string s] w fun e w' => e = .returned (.string ⟨(packW ws).toArray⟩) ∧ Below w.heap.size w w' := by
 have hsl : s.size = 8 * ws.length := by
  have h1 : s.data.toList.length = s.size := rfl
  rw [← h1, hsw, flat_length hw]
 have hpl := pack_len hw
 obtain ⟨R, hR⟩ : ∃ R, packW ws = R := ⟨_, rfl⟩
 rw [hR] at hpl ⊢
 have HR := Lib.hid hR
 have HSW := Lib.hid hsw
 have HWd := Lib.hid hw
 clear hsw hR hw
 go_enter Tryz.func53, Tryz.ntmps53
 go_wp2_with fail
 go_loopw [3, 4] (fun o i wr => ∃ (k : Nat) (u : ByteArray), k ≤ ws.length ∧ i = .int .i64 (8 * (k : Int)) ∧ o = .string u ∧ u.size ≤ 2000 ∧ Hid (u.data.toList ++ packW (ws.drop k) = R) ∧ Hid (Below w.heap.size w wr)) (fun _ i _ => s.size - (intOf i).toNat)
 case atStart => exact ⟨0, ByteArray.empty, by omega, rfl, rfl, by decide, by rw [List.drop_zero]; exact HR.out, Below.refl _ _⟩
 case round =>
  obtain ⟨k, u, hk, rfl, rfl, hu, HF, HB⟩ := hrel
  by_cases hk1 : k < ws.length
  · have hx8 : (ws[k]).length = 8 := HWd.out _ (List.getElem_mem hk1)
    have hX := ext_word1 HSW.out HWd.out k (8 * k) (8 * k + 8) rfl (by omega) hk1
    have hdr : ws.drop k = ws[k] :: ws.drop (k + 1) := List.drop_eq_getElem_cons hk1
    obtain ⟨x, hx⟩ : ∃ x, ws[k] = x := ⟨_, rfl⟩
    rw [hx] at hx8 hX hdr
    have hf := HF.out
    rw [hdr] at hf
    have hxs : (⟨x.toArray⟩ : ByteArray).size = 8 := by rw [mk_sz]; exact hx8
    have hT := maskN_lt x
    rw [hx8] at hT
    have hTag := fun w => l3Tag_any ⟨x.toArray⟩ w hxs
    obtain ⟨T, hTT⟩ : ∃ T, maskN x = T := ⟨_, rfl⟩
    simp only [hTT] at hTag hT
    have hT2 : T < 256 := hT
    have HTag := Lib.hid hTag
    have HX := Lib.hid hX
    have HX8 := Lib.hid hx8
    have HTT := Lib.hid hTT
    have HF2 := Lib.hid hf
    have HXS := Lib.hid hxs
    have hcv := conv1 T hT2
    have hbu : u.size + 1 ≤ 2001 := by omega
    obtain ⟨Y, hY⟩ : ∃ Y, u ++ (⟨#[UInt8.ofNat T]⟩ : ByteArray) = Y := ⟨_, rfl⟩
    have hYd : Y.data.toList = u.data.toList ++ [UInt8.ofNat T] := by rw [← hY]; simp
    have hYs : Y.size = u.size + 1 := by rw [← hY, ByteArray.size_append]; rfl
    have f1 : ¬ 9223372036854775807 < u.size + (⟨#[UInt8.ofNat T]⟩ : ByteArray).size := by
     have : (⟨#[UInt8.ofNat T]⟩ : ByteArray).size = 1 := rfl
     omega
    have HY := Lib.hid hY
    have HYd := Lib.hid hYd
    have HYs := Lib.hid hYs
    clear hX hTag hdr hf hT hTT hx hx8 hY hYd hYs hxs
    go_wp2_with fail
    rw [HX.out]
    with_reducible (refine (HTag.out _).mono ?_)
    rintro e w2 ⟨rfl, rfl⟩
    go_wp2_with fail
    rw [HY.out]
    clear hcv f1 hbu HY HX HTag
    have hx8 := HX8.out
    obtain ⟨W2, hW2⟩ : ∃ W2, W2 = wr.alloc (.cells #[.int .u8 (T : Int)] 5) := ⟨_, rfl⟩
    have hB2 : Hid (Below w.heap.size w W2) := Lib.hid (by rw [hW2]; exact HB.out.alloc HB.out.size _)
    rw [← hW2]
    clear hW2
    go_loop [3, 7] (fun o i => ∃ (j : Nat) (v : ByteArray), j ≤ 8 ∧ i = .int .i64 j ∧ o = .string v ∧ v.size ≤ 2001 + j ∧ Hid (v.data.toList = Y.data.toList ++ nzL (x.take j))) (fun _ i => 8 - (intOf i).toNat)
    case atStart => exact ⟨0, Y, by omega, rfl, rfl, by rw [HYs.out]; omega, by simp [Hid, nzL]⟩
    case round =>
     obtain ⟨j, v, hj, rfl, rfl, hv, HV⟩ := hrel
     by_cases hj1 : j < 8
     · have hnt := nz_take x j (by omega)
       have hxs := HXS.out
       have hjx : j < (⟨x.toArray⟩ : ByteArray).size := by omega
       have hbg : (⟨x.toArray⟩ : ByteArray)[j] = x[j]'(by omega) := rfl
       have heb := ext_byte x j (by omega)
       obtain ⟨c, hc⟩ : ∃ c, (⟨x.toArray⟩ : ByteArray)[j] = c := ⟨_, rfl⟩
       rw [← hbg, hc] at hnt heb
       have HNT := Lib.hid hnt
       have HEB := Lib.hid heb
       clear hnt heb hbg
       by_cases hz : c = 0
       · have hz1 : ((c.toNat : Int) == 0) = true := by rw [hz]; rfl
         have hz2 : ((c.toNat : Int) != 0) = false := by rw [hz]; rfl
         have HZ := Lib.hid hz
         clear hz
         go_wp2
         go_round
         case rel => exact ⟨j + 1, v, by omega, by go_num, rfl, by omega, by rw [Hid, HNT.out, if_pos HZ.out, List.append_nil]; exact HV.out⟩
         case measure => simp [intOf]; omega
       · have hz1 : ((c.toNat : Int) == 0) = false := by
          rw [beq_eq_false_iff_ne]; intro h; exact hz (UInt8.toNat_inj.1 (show c.toNat = 0 by omega))
         have hz2 : ((c.toNat : Int) != 0) = true := by simp [bne, hz1]
         have HZ := Lib.hid hz
         clear hz
         have hes : ((⟨x.toArray⟩ : ByteArray).extract j (j + 1)).size = 1 := by rw [sz_len, HEB.out]; rfl
         have f1 : ¬ 9223372036854775807 < v.size + ((⟨x.toArray⟩ : ByteArray).extract j (j + 1)).size := by omega
         have HES := Lib.hid hes
         clear hes
         go_wp2
         go_round
         case rel => exact ⟨j + 1, _, by omega, by go_num, rfl, by rw [ByteArray.size_append, HES.out]; omega, by rw [Hid, HNT.out, if_neg HZ.out, ba_app, HV.out, HEB.out, List.append_assoc]⟩
         case measure => simp [intOf]; omega
     · obtain rfl : j = 8 := by omega
       have hv1 := HV.out
       rw [List.take_of_length_le (by omega)] at hv1
       have HV1 := Lib.hid hv1
       clear HV hv1
       have hvs : v.size ≤ 2009 := by omega
       by_cases hT0 : T = 0
       · have hTT := HTT.out
         have hF3 := HF2.out
         rw [pack_zer0 x _ (by rw [hTT]; exact hT0)] at hF3
         obtain ⟨r, hr⟩ : ∃ r, ws.drop (k + 1) = r := ⟨_, rfl⟩
         rw [hr] at hF3
         have hrl : r.length = ws.length - (k + 1) := by rw [← hr, List.length_drop]
         obtain ⟨hn1, hn2⟩ := runN_le zerL r
         have hst := run_stops zerL r
         have hat := run_at zerL r
         obtain ⟨N, hN⟩ : ∃ N, runN zerL r = N := ⟨_, rfl⟩
         rw [hN] at hF3 hn1 hn2 hst hat
         have HRd := Lib.hid hr
         have HRL := Lib.hid hrl
         have hnk : k + 1 + N ≤ ws.length := by omega
         have HST := Lib.hid hst
         have HAT := Lib.hid hat
         have HF3 := Lib.hid hF3
         clear hTT hF3 hr hN hst hat hrl hn1
         have hcv := conv1 N (by omega)
         have f2 : ¬ 9223372036854775807 < v.size + (⟨#[UInt8.ofNat N]⟩ : ByteArray).size := by
          have : (⟨#[UInt8.ofNat N]⟩ : ByteArray).size = 1 := rfl
          omega
         obtain ⟨Y2, hY2⟩ : ∃ Y2, v ++ (⟨#[UInt8.ofNat N]⟩ : ByteArray) = Y2 := ⟨_, rfl⟩
         have HY2 := Lib.hid hY2
         have HY2S : Hid (Y2.size = v.size + 1) := Lib.hid (by rw [← hY2, ByteArray.size_append]; rfl)
         have HEND : Hid (Y2.data.toList ++ packW (ws.drop (k + 1 + N)) = R) := Lib.hid (by
          rw [← HF3.out, ← hY2, ba_app, HV1.out, HYd.out, ← HRd.out, List.drop_drop, HTT.out]
          simp)
         clear hY2
         have hT1f : ((T : Int) == 255) = false := by rw [hT0]; rfl
         have hT0f : ((T : Int) == 0) = true := by rw [hT0]; rfl
         have HT0 := Lib.hid hT0f
         have HT1 := Lib.hid hT1f
         clear hT0f hT1f hT0
         have e0 := HT0.out
         go_wp2_with fail
         clear e0
         go_loop [8] (fun i => ∃ n : Nat, n ≤ N ∧ i = .int .i64 n) (fun i => N - (intOf i).toNat)
         case atStart => exact ⟨0, by omega, rfl⟩
         case round =>
          obtain ⟨n, hn, rfl⟩ := hrel
          by_cases hnN : n < N
          · have hnr : n < r.length := by have := HRL.out; omega
            have hp := HAT.out n hnN hnr
            have hx2e : r[n] = ws[k + 1 + n]'(by omega) := by simp [← HRd.out]
            have hX2 := ext_word1 HSW.out HWd.out (k + 1 + n) (8 * k + 8 * (n + 1)) (8 * k + 8 * (n + 2)) (by omega) (by omega) (by omega)
            have hx28 : (ws[k + 1 + n]'(by omega)).length = 8 := HWd.out _ (List.getElem_mem _)
            rw [← hx2e] at hX2 hx28
            obtain ⟨x2, hx2⟩ : ∃ x2, r[n] = x2 := ⟨_, rfl⟩
            rw [hx2] at hX2 hx28 hp
            have HX2S : Hid ((⟨x2.toArray⟩ : ByteArray).size = 8) := Lib.hid (by rw [mk_sz]; exact hx28)
            have HX2 := Lib.hid hX2
            have HP2 := Lib.hid hp
            have hd1 : decide ((n : Int) < 255) = true := by simp; omega
            clear hx2e hX2 hx28 hx2 hp hnr
            go_wp2_with fail
            rw [HX2.out]
            with_reducible (refine (l1Zero_any ⟨x2.toArray⟩ W2 (by unfold maxLen; rw [HX2S.out]; decide)).mono ?_)
            rintro e w3 ⟨rfl, rfl⟩
            have hpv : zerB x2 = true := HP2.out
            go_wp2
            go_round
            case rel => exact ⟨n + 1, by omega, by go_num⟩
            case measure => simp [intOf]; omega
          · obtain rfl : n = N := by omega
            have HRL2 := HRL.out
            clear hnN hn
            have e0 := HT0.out
            have e1 := HT1.out
            rcases HST.out with h255 | hrn | ⟨hlt, hnz⟩
            · have hd1 : decide ((n : Int) < 255) = false := by simp; omega
              clear h255 HRL2
              skip
              go_wp2_with fail
              rw [HY2.out]
              go_wp2
              go_roundw
              case rel => exact ⟨k + 1 + n, Y2, by omega, by go_num, rfl, by have := out_sz HEND.out; omega, HEND.out, hB2.out.alloc hB2.out.size _⟩
              case measure => simp [intOf]; omega
            · have hnk2 : k + 1 + n = ws.length := by omega
              have hge : 8 * (ws.length : Int) ≤ 8 * (k : Int) + 8 * ((n : Int) + 1) := by omega
              have hd1 : decide ((n : Int) < 255) = true := by simp; omega
              clear hrn HRL2 hnk2
              skip
              go_wp2_with fail
              rw [HY2.out]
              go_wp2
              go_roundw
              case rel => exact ⟨k + 1 + n, Y2, by omega, by go_num, rfl, by have := out_sz HEND.out; omega, HEND.out, hB2.out.alloc hB2.out.size _⟩
              case measure => simp [intOf]; omega
            · have hlk : k + 1 + n < ws.length := by omega
              have hx2e : r[n] = ws[k + 1 + n]'(by omega) := by simp [← HRd.out]
              have hX2 := ext_word1 HSW.out HWd.out (k + 1 + n) (8 * k + 8 * (n + 1)) (8 * k + 8 * (n + 2)) (by omega) (by omega) (by omega)
              have hx28 : (ws[k + 1 + n]'(by omega)).length = 8 := HWd.out _ (List.getElem_mem _)
              rw [← hx2e] at hX2 hx28
              obtain ⟨x2, hx2⟩ : ∃ x2, r[n] = x2 := ⟨_, rfl⟩
              rw [hx2] at hX2 hx28 hnz
              have HX2S : Hid ((⟨x2.toArray⟩ : ByteArray).size = 8) := Lib.hid (by rw [mk_sz]; exact hx28)
              have HX2 := Lib.hid hX2
              have HP2 := Lib.hid hnz
              have hnn : n < 255 ∨ n = 255 := by omega
              clear hx2e hX2 hx28 hx2 hnz hlt HRL2
              rcases hnn with hlt255 | h255
              · have hd1 : decide ((n : Int) < 255) = true := by simp; omega
                go_wp2_with fail
                rw [HX2.out]
                with_reducible (refine (l1Zero_any ⟨x2.toArray⟩ W2 (by unfold maxLen; rw [HX2S.out]; decide)).mono ?_)
                rintro e w3 ⟨rfl, rfl⟩
                have hpv : zerB x2 = false := HP2.out
                skip
                go_wp2_with fail
                rw [HY2.out]
                go_wp2
                go_roundw
                case rel => exact ⟨k + 1 + n, Y2, by omega, by go_num, rfl, by have := out_sz HEND.out; omega, HEND.out, hB2.out.alloc hB2.out.size _⟩
                case measure => simp [intOf]; omega
              · have hd1 : decide ((n : Int) < 255) = false := by simp; omega
                clear h255
                skip
                go_wp2_with fail
                rw [HY2.out]
                go_wp2
                go_roundw
                case rel => exact ⟨k + 1 + n, Y2, by omega, by go_num, rfl, by have := out_sz HEND.out; omega, HEND.out, hB2.out.alloc hB2.out.size _⟩
                case measure => simp [intOf]; omega
       by_cases hT1 : T = 255
       · have hTT := HTT.out
         have hF3 := HF2.out
         rw [pack_full0 x _ HX8.out (by rw [hTT]; exact hT1)] at hF3
         obtain ⟨r, hr⟩ : ∃ r, ws.drop (k + 1) = r := ⟨_, rfl⟩
         rw [hr] at hF3
         have hrl : r.length = ws.length - (k + 1) := by rw [← hr, List.length_drop]
         obtain ⟨hn1, hn2⟩ := runN_le fewL r
         have hst := run_stops fewL r
         have hat := run_at fewL r
         obtain ⟨N, hN⟩ : ∃ N, runN fewL r = N := ⟨_, rfl⟩
         rw [hN] at hF3 hn1 hn2 hst hat
         have HRd := Lib.hid hr
         have HRL := Lib.hid hrl
         have hnk : k + 1 + N ≤ ws.length := by omega
         have HST := Lib.hid hst
         have HAT := Lib.hid hat
         have HF3 := Lib.hid hF3
         clear hTT hF3 hr hN hst hat hrl hn1
         have hcv := conv1 N (by omega)
         have f2 : ¬ 9223372036854775807 < v.size + (⟨#[UInt8.ofNat N]⟩ : ByteArray).size := by
          have : (⟨#[UInt8.ofNat N]⟩ : ByteArray).size = 1 := rfl
          omega
         have hE := ext_words HSW.out HWd.out (k + 1) N (8 * k + 8) (8 * k + 8 * (N + 1)) (by omega) (by omega) hnk
         rw [HRd.out] at hE
         obtain ⟨E, hE0⟩ : ∃ E, s.extract (8 * k + 8) (8 * k + 8 * (N + 1)) = E := ⟨_, rfl⟩
         have hEd : E.data.toList = (r.take N).flatten := by rw [← hE0, hE]
         have hEs : E.size ≤ 1600 := by rw [← hE0]; simp; omega
         obtain ⟨Y2, hY2⟩ : ∃ Y2, v ++ (⟨#[UInt8.ofNat N]⟩ : ByteArray) ++ E = Y2 := ⟨_, rfl⟩
         have f3 : ¬ 9223372036854775807 < (v ++ (⟨#[UInt8.ofNat N]⟩ : ByteArray)).size + (s.extract (8 * k + 8) (8 * k + 8 * (N + 1))).size := by
          have : (⟨#[UInt8.ofNat N]⟩ : ByteArray).size = 1 := rfl
          rw [hE0, ByteArray.size_append]; omega
         have HY2 := Lib.hid hY2
         have HE0 := Lib.hid hE0
         have HEND : Hid (Y2.data.toList ++ packW (ws.drop (k + 1 + N)) = R) := Lib.hid (by
          rw [← HF3.out, ← hY2, ba_app, ba_app, hEd, HV1.out, HYd.out, ← HRd.out, List.drop_drop, HTT.out]
          simp)
         clear hY2 hE hE0 hEd hEs
         have hT1f : ((T : Int) == 255) = true := by rw [hT1]; rfl
         have hT0f : ((T : Int) == 0) = false := by rw [hT1]; rfl
         have HT0 := Lib.hid hT0f
         have HT1 := Lib.hid hT1f
         clear hT0f hT1f hT0 hT1
         have e0 := HT0.out
         have e1 := HT1.out
         go_wp2_with fail
         clear e0
         go_loop [8] (fun i => ∃ n : Nat, n ≤ N ∧ i = .int .i64 n) (fun i => N - (intOf i).toNat)
         case atStart => exact ⟨0, by omega, rfl⟩
         case round =>
          obtain ⟨n, hn, rfl⟩ := hrel
          by_cases hnN : n < N
          · have hnr : n < r.length := by have := HRL.out; omega
            have hp := HAT.out n hnN hnr
            have hx2e : r[n] = ws[k + 1 + n]'(by omega) := by simp [← HRd.out]
            have hX2 := ext_word1 HSW.out HWd.out (k + 1 + n) (8 * k + 8 * (n + 1)) (8 * k + 8 * (n + 2)) (by omega) (by omega) (by omega)
            have hx28 : (ws[k + 1 + n]'(by omega)).length = 8 := HWd.out _ (List.getElem_mem _)
            rw [← hx2e] at hX2 hx28
            obtain ⟨x2, hx2⟩ : ∃ x2, r[n] = x2 := ⟨_, rfl⟩
            rw [hx2] at hX2 hx28 hp
            have HX2S : Hid ((⟨x2.toArray⟩ : ByteArray).size = 8) := Lib.hid (by rw [mk_sz]; exact hx28)
            have HX2 := Lib.hid hX2
            have HP2 := Lib.hid hp
            have hd1 : decide ((n : Int) < 255) = true := by simp; omega
            clear hx2e hX2 hx28 hx2 hp hnr
            go_wp2_with fail
            rw [HX2.out]
            with_reducible (refine (l3Few_any ⟨x2.toArray⟩ W2 HX2S.out).mono ?_)
            rintro e w3 ⟨rfl, rfl⟩
            have hpv : fewL x2 = true := HP2.out
            go_wp2
            go_round
            case rel => exact ⟨n + 1, by omega, by go_num⟩
            case measure => simp [intOf]; omega
          · obtain rfl : n = N := by omega
            have HRL2 := HRL.out
            clear hnN hn
            have e0 := HT0.out
            have e1 := HT1.out
            rcases HST.out with h255 | hrn | ⟨hlt, hnz⟩
            · have hd1 : decide ((n : Int) < 255) = false := by simp; omega
              clear h255 HRL2
              skip
              have hcvD : (convert 22 9 (.slice (some ⟨W2.heap.size, 0, none⟩) 1 1)).run Tryz.prog (W2.alloc (.cells #[.int .u8 (n : Int)] 5)).drew = .ok (.string ⟨#[UInt8.ofNat n]⟩) (W2.alloc (.cells #[.int .u8 (n : Int)] 5)).drew := conv1 n (by omega) W2.drew
              go_wp2_with fail
              go_region
              all_goals
               rw [HE0.out, HY2.out]
               go_wp2
               go_roundw
               case rel => exact ⟨k + 1 + n, Y2, by omega, by go_num, rfl, by have := out_sz HEND.out; omega, HEND.out, (hB2.out.alloc hB2.out.size _).drew⟩
               case measure => simp [intOf]; omega
            · have hnk2 : k + 1 + n = ws.length := by omega
              have hge : 8 * (ws.length : Int) ≤ 8 * (k : Int) + 8 * ((n : Int) + 1) := by omega
              have hd1 : decide ((n : Int) < 255) = true := by simp; omega
              clear hrn HRL2 hnk2
              skip
              have hcvD : (convert 22 9 (.slice (some ⟨W2.heap.size, 0, none⟩) 1 1)).run Tryz.prog (W2.alloc (.cells #[.int .u8 (n : Int)] 5)).drew = .ok (.string ⟨#[UInt8.ofNat n]⟩) (W2.alloc (.cells #[.int .u8 (n : Int)] 5)).drew := conv1 n (by omega) W2.drew
              go_wp2_with fail
              go_region
              all_goals
               rw [HE0.out, HY2.out]
               go_wp2
               go_roundw
               case rel => exact ⟨k + 1 + n, Y2, by omega, by go_num, rfl, by have := out_sz HEND.out; omega, HEND.out, (hB2.out.alloc hB2.out.size _).drew⟩
               case measure => simp [intOf]; omega
            · have hlk : k + 1 + n < ws.length := by omega
              have hx2e : r[n] = ws[k + 1 + n]'(by omega) := by simp [← HRd.out]
              have hX2 := ext_word1 HSW.out HWd.out (k + 1 + n) (8 * k + 8 * (n + 1)) (8 * k + 8 * (n + 2)) (by omega) (by omega) (by omega)
              have hx28 : (ws[k + 1 + n]'(by omega)).length = 8 := HWd.out _ (List.getElem_mem _)
              rw [← hx2e] at hX2 hx28
              obtain ⟨x2, hx2⟩ : ∃ x2, r[n] = x2 := ⟨_, rfl⟩
              rw [hx2] at hX2 hx28 hnz
              have HX2S : Hid ((⟨x2.toArray⟩ : ByteArray).size = 8) := Lib.hid (by rw [mk_sz]; exact hx28)
              have HX2 := Lib.hid hX2
              have HP2 := Lib.hid hnz
              have hnn : n < 255 ∨ n = 255 := by omega
              clear hx2e hX2 hx28 hx2 hnz hlt HRL2
              rcases hnn with hlt255 | h255
              · have hd1 : decide ((n : Int) < 255) = true := by simp; omega
                go_wp2_with fail
                rw [HX2.out]
                with_reducible (refine (l3Few_any ⟨x2.toArray⟩ W2 HX2S.out).mono ?_)
                rintro e w3 ⟨rfl, rfl⟩
                have hpv : fewL x2 = false := HP2.out
                skip
                have hcvD : (convert 22 9 (.slice (some ⟨W2.heap.size, 0, none⟩) 1 1)).run Tryz.prog (W2.alloc (.cells #[.int .u8 (n : Int)] 5)).drew = .ok (.string ⟨#[UInt8.ofNat n]⟩) (W2.alloc (.cells #[.int .u8 (n : Int)] 5)).drew := conv1 n (by omega) W2.drew
                go_wp2_with fail
                go_region
                all_goals
                 rw [HE0.out, HY2.out]
                 go_wp2
                 go_roundw
                 case rel => exact ⟨k + 1 + n, Y2, by omega, by go_num, rfl, by have := out_sz HEND.out; omega, HEND.out, (hB2.out.alloc hB2.out.size _).drew⟩
                 case measure => simp [intOf]; omega
              · have hd1 : decide ((n : Int) < 255) = false := by simp; omega
                clear h255
                skip
                have hcvD : (convert 22 9 (.slice (some ⟨W2.heap.size, 0, none⟩) 1 1)).run Tryz.prog (W2.alloc (.cells #[.int .u8 (n : Int)] 5)).drew = .ok (.string ⟨#[UInt8.ofNat n]⟩) (W2.alloc (.cells #[.int .u8 (n : Int)] 5)).drew := conv1 n (by omega) W2.drew
                go_wp2_with fail
                go_region
                all_goals
                 rw [HE0.out, HY2.out]
                 go_wp2
                 go_roundw
                 case rel => exact ⟨k + 1 + n, Y2, by omega, by go_num, rfl, by have := out_sz HEND.out; omega, HEND.out, (hB2.out.alloc hB2.out.size _).drew⟩
                 case measure => simp [intOf]; omega
       · have hTT := HTT.out
         have hF3 := HF2.out
         rw [pack_some0 x _ HX8.out (by rw [hTT]; exact hT0) (by rw [hTT]; exact hT1), hTT] at hF3
         have HEND : Hid (v.data.toList ++ packW (ws.drop (k + 1)) = R) := Lib.hid (by
          rw [← hF3, HV1.out, HYd.out]; simp)
         have e0 : ((T : Int) == 0) = false := by rw [beq_eq_false_iff_ne]; omega
         have e1 : ((T : Int) == 255) = false := by rw [beq_eq_false_iff_ne]; omega
         clear hTT hF3 hT0 hT1
         go_wp2
         go_roundw
         case rel => exact ⟨k + 1, v, by omega, by go_num, rfl, by have := out_sz HEND.out; omega, HEND.out, hB2.out⟩
         case measure => simp [intOf]; omega
  · obtain rfl : k = ws.length := by omega
    have hu2 := HF.out
    rw [List.drop_length, packW, List.append_nil] at hu2
    have hu3 : u = ⟨R.toArray⟩ := by apply ext_ba; rw [hu2]
    have HU3 := Lib.hid hu3
    clear hu2 hu3
    go_wp2
    go_ret
    exact ⟨by rw [HU3.out]; rfl, HB.out⟩
theorem l1Ok_any3 (s : ByteArray) (w : World) (hs : s.size ≤ maxLen) :
 Calls Tryz.prog 52 #[.string s] w fun e w' => e = .returned (.bool (wordsB s.size)) ∧ w = w' := by
 unfold maxLen at hs
 by_cases h1 : s.size % 8 = 0
 all_goals
  go_enter Tryz.func52, Tryz.ntmps52
  go_wp2
  go_ret
  refine ⟨ret_bool ?_, rfl⟩
  simp [wordsB, h1]
 omega
theorem wl_flat (l : List UInt8) (h : l.length % 8 = 0) : (wl (wordsQ l)).flatten = l := by
 have hw := wl_wds (wordsQ l)
 have hlen : (wl (wordsQ l)).length = l.length / 8 := by rw [wl_len, wordsQ_length]
 have hfl : (wl (wordsQ l)).flatten.length = l.length := by rw [flat_length hw, hlen]; omega
 apply List.ext_getElem?
 intro i
 by_cases hi : i < l.length
 · have hk : i / 8 < (wl (wordsQ l)).length := by rw [hlen]; omega
   have h1 := flat_at (wl (wordsQ l)) (i / 8) (i % 8) hw hk (by omega)
   rw [show 8 * (i / 8) + i % 8 = i by omega] at h1
   have h2 : (wl (wordsQ l))[i / 8] = (wordQ l (i / 8)).1 := by simp [wl, wordsQ]
   rw [h1, h2, wordQ_in l (i / 8) (by omega), List.getElem?_take, if_pos (by omega), List.getElem?_drop, show 8 * (i / 8) + i % 8 = i by omega]
 · rw [List.getElem?_eq_none (by omega), List.getElem?_eq_none (by omega)]
open Go.RowKit Go.Deep
def sndF (r : Option Segs) : ByteArray := ⟨(frameL (txR r)).toArray⟩
def sndB (r : Option Segs) : Bool := r.isSome && wordsB (sndF r).size
def sndS (r : Option Segs) : ByteArray := if sndB r = true then ⟨(packB (sndF r).data.toList).toArray⟩ else { data := #[] }
theorem numsL_len (ss : List ByteArray) : (numsL ss).length ≤ 4 * ss.length := by
 induction ss with
 | nil => exact Nat.le_refl _
 | cons s t ih =>
  unfold numsL at ih ⊢
  rw [List.flatMap_cons, List.length_append, leB_length, List.length_cons]
  omega
theorem bodyL_len (ss : List ByteArray) : (bodyL ss).length = tot ss := by
 induction ss with
 | nil => rfl
 | cons s t ih =>
  unfold bodyL tot at ih ⊢
  rw [List.flatMap_cons, List.length_append, ih, List.map_cons, List.sum_cons]
  rfl
theorem sndF_size (r : Option Segs) : (sndF r).size ≤ 10000 := by
 have h : ∀ ss, (frameL ss).length ≤ 10000 := fun ss => by
  unfold frameL
  split
  · rename_i h
    have h2 : (1 ≤ ss.length ∧ ss.length ≤ 6) ∧ tot ss ≤ 1600 := by
     unfold frOk at h
     simp only [Bool.and_eq_true, decide_eq_true_eq] at h
     exact ⟨h.1, h.2.2⟩
    have h3 := numsL_len ss
    have h4 := bodyL_len ss
    have h5 : (fillL ss.length).length ≤ 8 := by
     have : ∀ k, k ≤ 6 → (fillL k).length ≤ 8 := by decide
     exact this _ h2.1.2
    simp only [List.length_append, leB_length]
    omega
  · exact Nat.zero_le _
 have : (sndF r).size = (frameL (txR r)).length := by simp [sndF, ByteArray.size]
 rw [this]
 exact h _
theorem implSend_a (m : Nat) (n : Nd) (h : Hd) (w : World) (S : Nat → Prop) (size : Int) (hmx : ∀ x ∈ txR (bldV n size), x.size ≤ maxLen) (h6 : (txR (bldV n size)).length ≤ 6) (hn : NdAt w S m n h) (ht : totN m n ≤ 2000000) :
 Calls Tryz.prog 22 #[.agg #[.int .i64 n.kind, .string n.data, .slice h.A n.ptrs.length h.a, .int .i64 n.size, .int .i64 n.count, .slice h.B n.items.length h.b], .int .i64 size] w fun e w' => e = .returned (.tuple #[.string (sndS (bldV n size)), .bool (sndB (bldV n size))]) ∧ Below w.heap.size w w' := by
 obtain ⟨qA, qa, qB, qb⟩ := h
 have hb0 := (Below.refl w.heap.size w).alloc (Nat.le_refl _) (.cells #[.int .i64 n.kind, .string n.data, .slice qA n.ptrs.length qa, .int .i64 n.size, .int .i64 n.count, .slice qB n.items.length qb] nodeT)
 have HB0 := Lib.hid hb0
 have HC := Lib.hid ((implBuild_a m n ⟨qA, qa, qB, qb⟩ _ S size (hn.below hb0) ht).mono (fun _ _ h => h.uni))
 dsimp only at HC ⊢
 have HMX := Lib.hid hmx
 have hfs := sndF_size (bldV n size)
 have HFP := Lib.hid (fun (W : World) (A : Option Addr) (c : Nat) (hs : Strs W A (txR (bldV n size))) => implFramePut_any A c (txR (bldV n size)) W hs (by omega))
 have HIW := Lib.hid (fun (W : World) => isWords_any (sndF (bldV n size)) W (by unfold maxLen; omega))
 have HPK := Lib.hid (fun (W : World) => implPack_any (sndF (bldV n size)) W (by unfold maxLen; omega))
 have HFE : Hid ((⟨(frameL (txR (bldV n size))).toArray⟩ : ByteArray) = sndF (bldV n size)) := Lib.hid rfl
 rw [HFE.out] at HFP
 have hsB : sndB (bldV n size) = ((bldV n size).isSome && wordsB (sndF (bldV n size)).size) := rfl
 have hsS : sndS (bldV n size) = if sndB (bldV n size) = true then ⟨(packB (sndF (bldV n size)).data.toList).toArray⟩ else { data := #[] } := rfl
 rw [hsS, hsB]
 clear hsB hsS HFE hn hb0 hmx
 generalize txR (bldV n size) = ss at *
 generalize hF : sndF (bldV n size) = F at *
 generalize hO : (bldV n size).isSome = ok at *
 generalize (⟨(packB F.data.toList).toArray⟩ : ByteArray) = PK at *
 cases hw : wordsB F.size <;> cases ok
 all_goals
  rw [hw] at HIW
  simp only [Bool.and_true, Bool.and_false, Bool.true_and, Bool.false_and, if_true, Bool.false_eq_true, if_false]
  clear hw hF hO
  go_enter Tryz.func22, Tryz.ntmps22
  go_wp2_with fail
  refine HC.out.mono ?_
  rintro e w1 ⟨A, c, rfl, ho, hb1⟩
  have HB1 := Lib.hid (HB0.out.trans (hb1.mono HB0.out.size))
  have HST := Lib.hid (strs_ownX ho HMX.out)
  clear hb1 ho HC
  go_wp2_with fail
  refine (HFP.out _ A c HST.out).mono ?_
  rintro e w2 ⟨rfl, hb2⟩
  have HB2 := Lib.hid (HB1.out.trans (hb2.mono HB1.out.size))
  clear hb2
  go_wp2_with (first | (go_at_call 48; refine (HIW.out _).mono ?_; rintro e w3 ⟨rfl, rfl⟩) | (go_at_call 50; refine (HPK.out _).mono ?_; rintro e w4 ⟨rfl, hb4⟩; have HB2 := Lib.hid (HB2.out.trans (hb4.mono HB2.out.size)); clear hb4))
 · exact bodyPost_ret (v := .tuple #[.string { data := #[] }, .bool false]) (by simp [results, Tryz.results22, go_sem]) rfl ⟨rfl, HB2.out⟩
 · exact bodyPost_ret (v := .tuple #[.string { data := #[] }, .bool false]) (by simp [results, Tryz.results22, go_sem]) rfl ⟨rfl, HB2.out⟩
 · exact bodyPost_ret (v := .tuple #[.string { data := #[] }, .bool false]) (by simp [results, Tryz.results22, go_sem]) rfl ⟨rfl, HB2.out⟩
 · exact bodyPost_ret (v := .tuple #[.string PK, .bool true]) (by simp [results, Tryz.results22, go_sem]) rfl ⟨rfl, HB2.out⟩
end Go.Proofs.YtlbfffokkhccaaaGreatDoor
