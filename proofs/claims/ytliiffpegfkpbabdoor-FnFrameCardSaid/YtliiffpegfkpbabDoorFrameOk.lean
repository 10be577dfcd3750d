/- impl.FrameOk and spec.FrameOk answer the same of segments that are together of at most 2^40 bytes. -/
import Derived.Test.YtliiffpegfkpbabDoorStrsB
import Derived.Test.YtliiffpegfkpbabDoorIsWords
namespace Go.Proofs.YtliiffpegfkpbabDoor
open Go.RowKit

/-- segments are ok. -/
def frOk (ss : List ByteArray) : Bool := decide (1 ≤ ss.length ∧ ss.length ≤ 6) && (ss.all (fun s => decide (s.size % 8 = 0)) && decide (tot ss ≤ 1600))
/-- how many words they have together. -/
def wds (ss : List ByteArray) : Nat := (ss.map (·.size / 8)).sum
theorem wds_take (ss : List ByteArray) (k : Nat) (h : k < ss.length) : wds (ss.take (k + 1)) = wds (ss.take k) + (ss[k]).size / 8 := by
  rw [List.take_succ_eq_append_getElem h, wds, wds, List.map_append, List.sum_append]
  simp
theorem wds_tot : ∀ (ss : List ByteArray), ss.all (fun s => decide (s.size % 8 = 0)) = true → 8 * wds ss = tot ss
  | [], _ => rfl
  | s :: r, h => by
    simp only [List.all_cons, Bool.and_eq_true, decide_eq_true_eq] at h
    have := wds_tot r h.2
    simp only [wds, tot, List.map_cons, List.sum_cons] at this ⊢
    omega
theorem wds_le (ss : List ByteArray) : wds ss ≤ tot ss := by
  induction ss with
  | nil => exact Nat.le_refl _
  | cons s r ih => simp only [wds, tot, List.map_cons, List.sum_cons] at ih ⊢; omega
theorem all_false {ss : List ByteArray} {k : Nat} (h : k < ss.length) (hn : ¬ (ss[k]).size % 8 = 0) : ss.all (fun s => decide (s.size % 8 = 0)) = false := by
  rw [List.all_eq_false]
  exact ⟨ss[k], List.getElem_mem h, by simpa using hn⟩
theorem all_upto {ss : List ByteArray} {k : Nat} (hk : k < ss.length) (h : (ss.take k).all (fun s => decide (s.size % 8 = 0)) = true) (hm : (ss[k]).size % 8 = 0) : (ss.take (k + 1)).all (fun s => decide (s.size % 8 = 0)) = true := by
  rw [List.take_succ_eq_append_getElem hk, List.all_append, h]
  simpa using hm

set_option maxHeartbeats 400000 in
theorem specFrameOk_any (A : Option Addr) (cap : Nat) (ss : List ByteArray) (w : World) (h : Strs w A ss) (hn : ss.length ≤ 1048576) (ht : tot ss ≤ 1099511627776) :
    Calls Tryd.prog 11 #[.slice A ss.length cap] w fun e w' => e = .returned (.bool (frOk ss)) ∧ w = w' := by
  have H := Lib.hid h
  clear h
  go_enter Tryd.func11, Tryd.ntmps11
  go_wp2
  go_loop [3, 4] (fun m i => ∃ k : Nat, k ≤ ss.length ∧ i = .int .i64 k ∧ m = .int .i64 (wds (ss.take k) : Nat) ∧ Hid ((ss.take k).all (fun s => decide (s.size % 8 = 0)) = true)) (fun _ i => ss.length - (intOf i).toNat)
  case atStart => exact ⟨0, by omega, rfl, by simp [wds], by simp [Hid]⟩
  case round =>
    obtain ⟨k, hk, rfl, rfl, HA⟩ := hrel
    have hw1 : wds (ss.take k) ≤ 1099511627776 := Nat.le_trans (wds_le _) (Nat.le_trans (tot_take_le ss k) ht)
    by_cases hk1 : k < ss.length
    · obtain ⟨a, rfl, _, hc⟩ := H.out.2.resolve_left (by intro h; rw [h] at hk1; simp at hk1)
      have hck := hc k hk1
      have hsz := H.out.1 ss[k] (List.getElem_mem hk1)
      unfold maxLen at hsz
      have hsz2 : (ss[k]).size ≤ 1099511627776 := by
        have h1 := tot_take ss k hk1
        have h2 := tot_take_le ss (k + 1)
        omega
      clear hc
      by_cases hm : (ss[k]).size % 8 = 0
      · have hA' := all_upto hk1 HA.out hm
        have HA' := Lib.hid hA'
        have hwt := wds_take ss k hk1
        have HW := Lib.hid hwt
        have hm0 : (((ss[k]).size : Int) % 8 != 0) = false := by simp; omega
        clear hA' hwt hm
        go_wp2
        go_round
        case rel => exact ⟨k + 1, by omega, by go_num, by rw [HW.out]; go_num, HA'.out⟩
        case measure => simp [intOf]; omega
      · have hm0 : (((ss[k]).size : Int) % 8 != 0) = true := by simp; omega
        have hf := all_false hk1 hm
        have HF := Lib.hid hf
        clear hf hm
        go_wp2
        go_ret
        exact ⟨ret_bool (by rw [frOk, HF.out]; simp), rfl⟩
    · obtain rfl : k = ss.length := by omega
      have hall : ss.all (fun s => decide (s.size % 8 = 0)) = true := by have := HA.out; rwa [List.take_of_length_le (Nat.le_refl _)] at this
      have hwt := wds_tot ss hall
      rw [List.take_of_length_le (Nat.le_refl _)] at hw1
      have hfin : frOk ss = (inB ss.length 1 6 && decide ((wds ss : Int) ≤ 200)) := by
        rw [frOk, hall, Bool.true_and, inB, Bool.eq_iff_iff]
        simp
        omega
      have HF := Lib.hid hfin
      clear hall hwt hfin
      cases hin : inB ss.length 1 6
      all_goals
        go_wp2_with (go_at_call 35; refine (l1In_any _ _ _ _).mono ?_; rintro e w' ⟨rfl, rfl⟩)
        all_goals go_ret
        all_goals refine ⟨ret_bool ?_, rfl⟩
        all_goals (rw [HF.out, hin]; simp; try assumption)

set_option maxHeartbeats 400000 in
theorem implFrameOk_any (A : Option Addr) (cap : Nat) (ss : List ByteArray) (w : World) (h : Strs w A ss) (hn : ss.length ≤ 1048576) :
    Calls Tryd.prog 10 #[.slice A ss.length cap] w fun e w' => e = .returned (.bool (frOk ss)) ∧ w = w' := by
  have H := Lib.hid h
  clear h
  by_cases h1 : ss.length < 1
  · have hf : frOk ss = false := by rw [frOk, decide_eq_false (by omega), Bool.false_and]
    rw [hf]
    clear hf
    go_enter Tryd.func10, Tryd.ntmps10
    go_wp2
    go_ret
    exact ⟨rfl, rfl⟩
  have h1 : 1 ≤ ss.length := by omega
  by_cases h6 : 6 < ss.length
  · have hf : frOk ss = false := by rw [frOk, decide_eq_false (by omega), Bool.false_and]
    rw [hf]
    clear hf
    go_enter Tryd.func10, Tryd.ntmps10
    go_wp2
    go_ret
    exact ⟨rfl, rfl⟩
  have h6 : ss.length ≤ 6 := by omega
  go_enter Tryd.func10, Tryd.ntmps10
  go_wp2
  go_loop [3, 5, 16] (fun m _ i => ∃ k : Nat, k ≤ ss.length ∧ i = .int .i64 k ∧ m = .int .i64 (tot (ss.take k) : Nat) ∧ tot (ss.take k) ≤ 1600 * k ∧ Hid ((ss.take k).all (fun s => decide (s.size % 8 = 0)) = true)) (fun _ _ i => ss.length - (intOf i).toNat)
  case atStart => exact ⟨0, by omega, rfl, by simp [tot], by simp [tot], by simp [Hid]⟩
  case round =>
    obtain ⟨k, hk, rfl, rfl, hT, HA⟩ := hrel
    by_cases hk1 : k < ss.length
    · obtain ⟨a, rfl, _, hc⟩ := H.out.2.resolve_left (by intro h; rw [h] at hk1; simp at hk1)
      have hck := hc k hk1
      have hsz := H.out.1 ss[k] (List.getElem_mem hk1)
      clear hc
      cases hw : wordsB (ss[k]).size
      · have hf : frOk ss = false := by
          rw [Bool.eq_false_iff]
          intro hok
          simp only [frOk, Bool.and_eq_true, decide_eq_true_eq] at hok
          obtain ⟨_, ha, ht⟩ := hok
          have hm : (ss[k]).size % 8 = 0 := by simpa using List.all_eq_true.1 ha ss[k] (List.getElem_mem hk1)
          have h1 := tot_take ss k hk1
          have h2 := tot_take_le ss (k + 1)
          have : wordsB (ss[k]).size = true := by rw [wordsB, decide_eq_true]; omega
          rw [this] at hw
          cases hw
        have HF := Lib.hid hf
        clear hf
        go_wp2_with (go_at_call 34; refine (isWords_any _ _ hsz).mono ?_; rintro e w' ⟨rfl, rfl⟩)
        go_ret
        exact ⟨ret_bool HF.out.symm, rfl⟩
      · have hw8 : (ss[k]).size % 8 = 0 ∧ (ss[k]).size ≤ 1600 := by simpa [wordsB] using hw
        obtain ⟨hm, hle⟩ := hw8
        have hA' := all_upto hk1 HA.out hm
        have HA' := Lib.hid hA'
        have htt := tot_take ss k hk1
        have hT' : tot (ss.take (k + 1)) ≤ 1600 * (k + 1) := by omega
        have HT' := Lib.hid hT'
        have HTT := Lib.hid htt
        clear hA' htt hm hT'
        go_wp2_with (go_at_call 34; refine (isWords_any _ _ hsz).mono ?_; rintro e w' ⟨rfl, rfl⟩)
        go_round
        case rel => exact ⟨k + 1, by omega, by go_num, by rw [HTT.out]; go_num, HT'.out, HA'.out⟩
        case measure => simp [intOf]; omega
    · obtain rfl : k = ss.length := by omega
      have hall : ss.all (fun s => decide (s.size % 8 = 0)) = true := by have := HA.out; rwa [List.take_of_length_le (Nat.le_refl _)] at this
      have hfin : frOk ss = decide ((tot ss : Int) ≤ 1600) := by
        rw [frOk, hall, Bool.true_and, decide_eq_true (show 1 ≤ ss.length ∧ ss.length ≤ 6 by omega), Bool.true_and, Bool.eq_iff_iff]
        simp
        omega
      have HF := Lib.hid hfin
      clear hall hfin
      go_wp2
      go_ret
      refine ⟨ret_bool ?_, rfl⟩
      rw [HF.out]

end Go.Proofs.YtliiffpegfkpbabDoor
