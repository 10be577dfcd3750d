/- What FrameGet answers of a frame, of a frame with bytes behind, and of less than a frame. -/
import Derived.Test.YtliiffpegfkpbabDoorMathFG
import Derived.Test.YtliiffpegfkpbabDoorFramePut
namespace Go.Proofs.YtliiffpegfkpbabDoor
open Go.RowKit
theorem fr_len {ss : List ByteArray} (h : frOk ss = true) : (frameL ss).length = fgHead ss.length + tot ss := by
  rw [frameL, if_pos h, List.length_append, List.length_append, List.length_append, leB_length, numsL_length, bodyL_length, fillL, fgHead]
  split
  · rw [leB_length]; omega
  · simp; omega
theorem tot_le8 (ss : List ByteArray) (b : Nat) (h : ∀ s ∈ ss, s.size ≤ b) : tot ss ≤ ss.length * b := by
  induction ss with
  | nil => simp [tot]
  | cons a r ih =>
    have h1 := h a (by simp)
    have h2 := ih (fun s hs => h s (by simp [hs]))
    simp only [tot, List.map_cons, List.sum_cons, List.length_cons] at h2 ⊢
    rw [Nat.succ_mul]
    omega
theorem str_not_empty (X : ByteArray) (h : 1 ≤ X.size) : X.toList.isEmpty = false := by
  rw [ByteArray.toList_eq]
  cases hx : X.data.toList with
  | nil =>
    have h2 : X.data.toList.length = X.size := rfl
    rw [hx, List.length_nil] at h2
    omega
  | cons a r => rfl
theorem nums_at : ∀ (ss : List ByteArray) (i : Nat) (h : i < ss.length) (r : List UInt8), leN (numsL ss ++ r) (4 * i) 4 = leN (leB (((ss[i]).size / 8 : Nat) : Int) 4) 0 4
  | s :: ss, 0, _, r => by
    refine leN_congr _ _ 4 _ _ (fun j hj => ?_)
    rw [numsL, List.flatMap_cons, List.append_assoc, Nat.mul_zero, List.getElem?_append_left (by rw [leB_length]; omega)]
    rfl
  | s :: ss, i + 1, h, r => by
    have ih := nums_at ss i (by simpa using h) r
    rw [List.getElem_cons_succ, ← ih]
    refine leN_congr _ _ 4 _ _ (fun j hj => ?_)
    rw [numsL, List.flatMap_cons, List.append_assoc, List.getElem?_append_right (by rw [leB_length]; omega), leB_length, ← numsL]
    congr 1; omega
theorem leN_leB_small (n : Nat) (h : n < 4294967296) : leN (leB (n : Int) 4) 0 4 = n := by
  have e := leN_leB 4 (n : Int)
  rw [show (256 : Int) ^ 4 = 4294967296 from rfl] at e
  omega
theorem frOk_all {ss : List ByteArray} (h : frOk ss = true) : ss.all (fun s => decide (s.size % 8 = 0)) = true := by
  simp only [frOk, Bool.and_eq_true] at h
  exact h.2.1
theorem fillL_zero (n : Nat) : ∀ b ∈ fillL n, b = 0 := by
  intro b hb
  unfold fillL at hb
  split at hb
  · simp [leB] at hb; exact hb
  · cases hb
/-- what begins as a frame does. -/
theorem head_of {ss : List ByteArray} (hok : frOk ss = true) {l : List UInt8} (hl : ∀ j, j < fgHead ss.length → l[j]? = (frameL ss)[j]?) (h8 : fgHead ss.length ≤ l.length) :
    gN l 0 + 1 = ss.length ∧ szs l ss.length = ss.map (fun s => s.size / 8) ∧ fgZ l ss.length = true := by
  obtain ⟨⟨h1, h6⟩, htot⟩ := frOk_parts hok
  have hF : frameL ss = leB ((ss.length : Int) - 1) 4 ++ (numsL ss ++ (fillL ss.length ++ bodyL ss)) := by rw [frameL, if_pos hok, List.append_assoc, List.append_assoc]
  have hh : 4 * ss.length + 4 ≤ fgHead ss.length := by unfold fgHead; omega
  refine ⟨?_, ?_, ?_⟩
  · have e : gN l 0 = leN (leB (((ss.length - 1 : Nat) : Int)) 4) 0 4 := by
      refine leN_congr _ _ 4 _ _ (fun i hi => ?_)
      rw [hl _ (by omega), hF, List.getElem?_append_left (by rw [leB_length]; omega)]
      rw [show ((ss.length : Int) - 1) = ((ss.length - 1 : Nat) : Int) by omega]
    rw [e, leN_leB_small _ (by omega)]; omega
  · apply List.ext_getElem
    · rw [szs_length, List.length_map]
    · intro i hi1 hi2
      rw [szs_length] at hi1
      rw [List.getElem_map]
      have hsz := tot_get ss i hi1
      have e : (szs l ss.length)[i]'(by rw [szs_length]; exact hi1) = gN l (i + 1) := by simp [szs]
      rw [e, ← leN_leB_small ((ss[i]).size / 8) (by omega), ← nums_at ss i hi1 (fillL ss.length ++ bodyL ss)]
      refine leN_congr _ _ 4 _ _ (fun j hj => ?_)
      rw [hl _ (by omega), hF, List.getElem?_append_right (by rw [leB_length]; omega), leB_length]
      congr 1; omega
  · rw [fgZ, List.all_eq_true]
    intro b hb
    obtain ⟨i, hi, rfl⟩ := List.mem_iff_getElem.1 hb
    have hi2 : 4 * (ss.length + 1) + i < fgHead ss.length := by
      rw [List.length_drop, List.length_take] at hi; omega
    have hfl : (fillL ss.length).length = fgHead ss.length - 4 * (ss.length + 1) := by
      unfold fillL fgHead
      split
      · rw [leB_length]; omega
      · simp; omega
    have e : ((l.take (fgHead ss.length)).drop (4 * (ss.length + 1)))[i]? = (fillL ss.length)[i]? := by
      rw [List.getElem?_drop, List.getElem?_take_of_lt hi2, hl _ hi2, hF, List.getElem?_append_right (by rw [leB_length]; omega), leB_length, List.getElem?_append_right (by rw [numsL_length]; omega), numsL_length,
        List.getElem?_append_left (by omega)]
      congr 1; omega
    rw [List.getElem?_eq_getElem hi, List.getElem?_eq_getElem (by omega)] at e
    have e2 : ((l.take (fgHead ss.length)).drop (4 * (ss.length + 1)))[i] = (fillL ss.length)[i]'(by omega) := by simpa using e
    rw [e2]
    have := fillL_zero ss.length _ (List.getElem_mem (show i < (fillL ss.length).length by omega))
    rw [this]; rfl
theorem cut_body (s : ByteArray) : ∀ (ss : List ByteArray) (a : Nat) (r : List UInt8), s.data.toList.drop a = bodyL ss ++ r → ss.all (fun s => decide (s.size % 8 = 0)) = true → cutB s a (ss.map fun s => s.size / 8) = ss
  | [], _, _, _, _ => rfl
  | x :: ss, a, r, h, hw => by
    simp only [List.all_cons, Bool.and_eq_true, decide_eq_true_eq] at hw
    have hx : 8 * (x.size / 8) = x.size := by omega
    have hxl : x.data.toList.length = x.size := rfl
    rw [bodyL, List.flatMap_cons, List.append_assoc, ← bodyL] at h
    rw [List.map_cons, cutB, hx]
    congr 1
    · apply ext_ba
      rw [Lib.extract_data, h, show a + x.size - a = x.size by omega, List.take_append_of_le_length (by omega), List.take_of_length_le (by omega)]
    · refine cut_body s ss (a + x.size) r ?_ hw.2
      rw [← List.drop_drop, h, List.drop_append_of_le_length (by omega), List.drop_of_length_le (by omega), List.nil_append]
/-- a frame with whatever behind it. -/
theorem fg_frame {ss : List ByteArray} (hok : frOk ss = true) (s : ByteArray) (r : List UInt8) (h : s.data.toList = frameL ss ++ r) : fg s = (((frameL ss).length : Int), ss) := by
  obtain ⟨⟨h1, h6⟩, htot⟩ := frOk_parts hok
  have hlen := fr_len hok
  have hsl : s.data.toList.length = s.size := rfl
  rw [h, List.length_append] at hsl
  have hall := frOk_all hok
  have hw := wds_tot ss hall
  obtain ⟨g1, g2, g3⟩ := head_of hok (l := s.data.toList) (fun j hj => by rw [h, List.getElem?_append_left (by omega)]) (by rw [h, List.length_append]; omega)
  have h4 : 4 ≤ fgHead ss.length := by unfold fgHead; omega
  have hsum : (ss.map fun s => s.size / 8).sum = wds ss := rfl
  rw [fg5 g1 (by omega) h6 (by omega) g3 (by rw [g2, hsum]; omega) (by rw [g2, hsum]; omega), g2, hsum, hw, ← hlen]
  rw [cut_body s ss _ r ?_ hall]
  have hF : frameL ss = (leB ((ss.length : Int) - 1) 4 ++ numsL ss ++ fillL ss.length) ++ bodyL ss := by rw [frameL, if_pos hok]
  have hhl : (leB ((ss.length : Int) - 1) 4 ++ numsL ss ++ fillL ss.length).length = fgHead ss.length := by
    have := congrArg List.length hF
    rw [List.length_append, bodyL_length] at this
    omega
  rw [h, hF, List.append_assoc, List.drop_append_of_le_length (by omega), List.drop_of_length_le (by omega), List.nil_append]
/-- less than a frame. -/
theorem fg_part {ss : List ByteArray} (hok : frOk ss = true) (s : ByteArray) (k : Nat) (hk : k < (frameL ss).length) (h : s.data.toList = (frameL ss).take k) : fg s = (0, []) := by
  obtain ⟨⟨h1, h6⟩, htot⟩ := frOk_parts hok
  have hlen := fr_len hok
  have hsl : s.data.toList.length = s.size := rfl
  rw [h, List.length_take] at hsl
  have hall := frOk_all hok
  have hw := wds_tot ss hall
  by_cases h4 : s.size < 4
  · exact fg0 h4
  have hg0 : gN s.data.toList 0 + 1 = ss.length := by
    have hF : frameL ss = leB ((ss.length : Int) - 1) 4 ++ (numsL ss ++ (fillL ss.length ++ bodyL ss)) := by rw [frameL, if_pos hok, List.append_assoc, List.append_assoc]
    have e : gN s.data.toList 0 = leN (leB (((ss.length - 1 : Nat) : Int)) 4) 0 4 := by
      refine leN_congr _ _ 4 _ _ (fun i hi => ?_)
      rw [h, List.getElem?_take_of_lt (by omega), hF, List.getElem?_append_left (by rw [leB_length]; omega)]
      rw [show ((ss.length : Int) - 1) = ((ss.length - 1 : Nat) : Int) by omega]
    rw [e, leN_leB_small _ (by omega)]; omega
  by_cases hh : s.size < fgHead ss.length
  · exact fg2 hg0 (by omega) h6 hh
  obtain ⟨g1, g2, g3⟩ := head_of hok (l := s.data.toList) (fun j hj => by rw [h, List.getElem?_take_of_lt (by omega)]) (by rw [h, List.length_take]; omega)
  have hsum : (ss.map fun s => s.size / 8).sum = wds ss := rfl
  exact fg4 g1 (by omega) h6 (by omega) g3 (by rw [g2, hsum]; omega) (by rw [g2, hsum]; omega)
theorem fr_mod8 {ss : List ByteArray} (hok : frOk ss = true) : (frameL ss).length % 8 = 0 ∧ 8 ≤ (frameL ss).length ∧ (frameL ss).length ≤ 1632 := by
  obtain ⟨⟨h1, h6⟩, htot⟩ := frOk_parts hok
  have hlen := fr_len hok
  have hw := wds_tot ss (frOk_all hok)
  unfold fgHead at hlen
  omega
end Go.Proofs.YtliiffpegfkpbabDoor
