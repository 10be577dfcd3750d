/- The walk of the law FnFrameSize: true at every code. -/
import Derived.Test.YtliiffpegfkpbaaDrawSeg
import Derived.Test.YtliiffpegfkpbaaFramePutS
import Derived.Test.YtliiffpegfkpbaaGet
namespace Go.Proofs.Ytliiffpegfkpbaa
open Go.RowKit
theorem tot_le (ss : List ByteArray) (b : Nat) : (∀ s ∈ ss, s.size ≤ b) → ss.length ≤ 8 → tot ss ≤ 8 * b := by
  intro h hl
  have : ∀ ss : List ByteArray, (∀ s ∈ ss, s.size ≤ b) → tot ss ≤ ss.length * b := by
    intro ss
    induction ss with
    | nil => intro _; simp [tot]
    | cons a r ih =>
      intro h
      have h1 := h a (by simp)
      have h2 := ih (fun s hs => h s (by simp [hs]))
      simp only [tot, List.map_cons, List.sum_cons, List.length_cons] at h2 ⊢
      rw [Nat.succ_mul]
      omega
  exact Nat.le_trans (this ss h) (Nat.mul_le_mul_right b hl)
theorem frameL_length {ss : List ByteArray} (h : frOk ss = true) : (frameL ss).length = (4 * (ss.length + 1) + 7) / 8 * 8 + tot ss := by
  rw [frameL, if_pos h, List.length_append, List.length_append, List.length_append, leB_length, numsL_length, bodyL_length, fillL]
  split
  · rw [leB_length]; omega
  · simp; omega
theorem frameL_first {ss : List ByteArray} (h : frOk ss = true) : getI ((frameL ss).take 8) 0 4 = (ss.length : Int) - 1 := by
  obtain ⟨⟨h1, h6⟩, _⟩ := frOk_parts h
  have hl := frameL_length h
  have hl8 : ((frameL ss).take 8).length = 8 := by rw [List.length_take]; omega
  have hw : wordsB ((frameL ss).take 8).length = true := by rw [hl8]; decide
  rw [getI, if_pos ⟨hw, by decide⟩]
  have e : leN ((frameL ss).take 8) (0 : Int).toNat (4 : Int).toNat = leN (leB ((ss.length : Int) - 1) 4) 0 4 := by
    refine leN_congr _ _ 4 0 0 (fun i hi => ?_)
    rw [List.getElem?_take_of_lt (by omega), frameL, if_pos h, List.append_assoc, List.append_assoc, List.getElem?_append_left (by rw [leB_length]; omega)]
  have e2 := leN_leB 4 ((ss.length : Int) - 1)
  rw [show (256 : Int) ^ 4 = 4294967296 from rfl] at e2
  rw [e, e2]
  unfold wrap64; omega
theorem not_empty (X : ByteArray) (h : 1 ≤ X.size) : X.toList.isEmpty = false := by
  rw [ByteArray.toList_eq]
  cases hx : X.data.toList with
  | nil =>
    have h2 : X.data.toList.length = X.size := rfl
    rw [hx] at h2
    rw [List.length_nil] at h2
    omega
  | cons a r => rfl
set_option maxHeartbeats 4000000 in
theorem walkFnFrameSize (w : World) (a : Option Addr) (len cap : Nat) (h : Arg w a len cap) :
    Calls Try.prog 8 #[.slice a len cap] w fun e w' => e = .returned (.bool true) ∧ Below w.heap.size w w' := by
  have hlen := h.1.1
  unfold maxLen at hlen
  by_cases hbig : 1048576 < len
  · go_enter Try.func8, Try.ntmps8
    go_wp2
    go_ret
    exact ⟨rfl, Below.refl _ _⟩
  go_enter Try.func8, Try.ntmps8
  go_wp2_with fail
  refine (drawFramePut_any a len cap _ h).mono ?_
  rintro e w1 ⟨A, cp, ss, rfl, hl, hall, hst, hb⟩
  have hn : ss.length ≤ 1048576 := by omega
  have htot : tot ss ≤ 13600 := tot_le ss 1700 hall hl
  have HST := Lib.hid hst
  clear hst hall
  go_wp2_with fail
  refine (implFramePut_any A cp ss _ HST.out hn).mono ?_
  rintro e w2 ⟨rfl, hb2⟩
  replace HST := Lib.hid (HST.out.below hb2)
  replace hb := hb.trans (hb2.mono hb.size)
  have HSP : Hid (∀ w : World, Strs w A ss → Calls Try.prog 27 #[.slice A ss.length cp] w fun e w' => e = .returned (.string ⟨(frameL ss).toArray⟩) ∧ Below w.heap.size w w') := Lib.hid (fun w h => specFramePut_any A cp ss w h hn (by omega))
  clear hb2
  cases hok : frOk ss
  · have hX : frameL ss = [] := by rw [frameL, hok, if_neg (by simp)]
    rw [hX] at HSP ⊢
    clear hX hok
    go_wp2_with fail
    refine (HSP.out _ HST.out).mono ?_
    rintro e w3 ⟨rfl, hb3⟩
    replace HST := Lib.hid (HST.out.below hb3)
    replace hb := hb.trans (hb3.mono hb.size)
    go_wp2_with fail
    refine (HSP.out _ HST.out).mono ?_
    rintro e w4 ⟨rfl, hb4⟩
    replace hb := hb.trans (hb4.mono hb.size)
    go_wp2
    go_ret
    exact ⟨rfl, hb⟩
  · obtain ⟨⟨h1, h6⟩, htt⟩ := frOk_parts hok
    have hlenX := frameL_length hok
    have hfst := frameL_first hok
    have hXl : (⟨(frameL ss).toArray⟩ : ByteArray).data.toList = frameL ss := rfl
    have hXs : (⟨(frameL ss).toArray⟩ : ByteArray).size = (4 * (ss.length + 1) + 7) / 8 * 8 + tot ss := by rw [mk_size, hlenX]
    generalize (⟨(frameL ss).toArray⟩ : ByteArray) = X at HSP hXl hXs ⊢
    have hcut : (X.extract 0 8).data.toList = (frameL ss).take 8 := by rw [Lib.extract_data, hXl]; simp
    rw [← hcut] at hfst
    have hum : (X.extract 0 8).size ≤ maxLen := by unfold maxLen; simp; omega
    have hx8 : 8 ≤ X.size := by omega
    generalize hue : X.extract 0 8 = u at hfst hum
    obtain ⟨ad, rfl, hlt, hcells⟩ := HST.out.2.resolve_left (by intro h0; rw [h0] at h1; simp at h1)
    have HFst := Lib.hid hfst
    have HXs := Lib.hid hXs
    have HUE := Lib.hid hue
    have he := not_empty X (by omega)
    have HC := Lib.hid hcells
    clear hlenX hfst hXl hXs hcut hok hue hcells
    go_wp2_with fail
    refine (HSP.out _ HST.out).mono ?_
    rintro e w3 ⟨rfl, hb3⟩
    replace HST := Lib.hid (HST.out.below hb3)
    replace hb := hb.trans (hb3.mono hb.size)
    clear hb3
    have hcells3 := (HST.out.2.resolve_left (by intro h0; rw [h0] at h1; simp at h1))
    obtain ⟨ad', hade, _, hc3⟩ := hcells3
    cases hade
    have HC3 := Lib.hid hc3
    clear hc3 HC
    go_wp2_with fail
    go_loopw [5, 6] (fun v i wr => ∃ k : Nat, k ≤ ss.length ∧ i = .int .i64 k ∧ v = .int .i64 (tot (ss.take k) : Nat) ∧ w3 = wr) (fun _ i _ => ss.length - (intOf i).toNat)
    case atStart => exact ⟨0, by omega, rfl, by simp [tot], rfl⟩
    case round =>
      obtain ⟨k, hk, rfl, rfl, rfl⟩ := hrel
      by_cases hk1 : k < ss.length
      · have hc := HC3.out k hk1
        have htk := tot_take ss k hk1
        have hsz := tot_get ss k hk1
        have htl := tot_take_le ss k
        obtain ⟨s, hs⟩ : ∃ s, ss[k] = s := ⟨_, rfl⟩
        rw [hs] at hc hsz htk
        have HTK := Lib.hid htk
        generalize tot (ss.take k) = t at HTK htl
        clear htk hs
        go_wp2
        go_roundw
        case rel => exact ⟨k + 1, by omega, by go_num, by rw [HTK.out]; go_num, trivial⟩
        case measure => simp [intOf]; omega
      · obtain rfl : k = ss.length := by omega
        have hX2 : (X.size : Int) = (4 * ((ss.length : Int) + 1) + 7) / 8 * 8 + ((tot (ss.take ss.length) : Nat) : Int) := by rw [HXs.out, List.take_length]; omega
        have htl : tot (ss.take ss.length) ≤ 13600 := by rw [List.take_length]; omega
        generalize tot (ss.take ss.length) = t at hX2 htl
        have hu := HUE.out
        have hg := HFst.out
        have g8 : (8 : Int) ≤ (X.size : Int) := by omega
        have hb1 : ((X.size : Int) == (4 * ((ss.length : Int) + 1) + 7) / 8 * 8 + (t : Int)) = true := by rw [hX2]; simp
        clear hX2
        go_wp2_with (go_at_call 14; go_must (refine (implGet_any u _ _ _ hum).mono ?_); rintro e w4 ⟨rfl, hb4⟩; replace hb := hb.trans (hb4.mono hb.size))
        go_ret
        exact ⟨rfl, hb⟩
end Go.Proofs.Ytliiffpegfkpbaa
