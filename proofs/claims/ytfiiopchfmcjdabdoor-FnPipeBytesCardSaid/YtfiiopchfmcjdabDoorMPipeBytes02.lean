/- Texts of the proof of the law FnPipeBytes, side by side: part 2. -/
import Derived.Maps.AppendAt
import Derived.Lib.Builder
import Derived.Lib.Strings
import Derived.Lib.UnsafeStr
import Derived.Laws.Externs
import Derived.OwnWalk
import Derived.Deep.QuietTactic
import Derived.BigQuiet
import Derived.Lib.AppendStr
import Derived.Deep.DeepMust
import Derived.Shelf.Strings.Builder1
import Derived.Test.YtfiiopchfmcjdabDoorProg
import Derived.Test.YtfiiopchfmcjdabDoorMPipeBytes00
import Derived.Test.YtfiiopchfmcjdabDoorMPipeBytes01
/- impl.FrameOk and spec.FrameOk answer the same of segments that are together of at most 2^40 bytes. -/
namespace Go.Proofs.YtfiiopchfmcjdabDoor
open Go.RowKit

/-- segments are ok. -/
def frOk (ss : List ByteArray) : Bool := decide (1 ≤ ss.length ∧ ss.length ≤ 6) && (ss.all (fun s => decide (s.size % 8 = 0)) && decide (tot ss ≤ 1600))
/-- how many words they have together. -/
def wds (ss : List ByteArray) : Nat := (ss.map (·.size / 8)).sum
theorem wds_take (ss : List ByteArray) (k : Nat) (h : k < ss.length) : wds (ss.take (k + 1)) = wds (ss.take k) + (ss[k]).size / 8 := by
  rw [List.take_succ_eq_append_getElem h, wds, wds, List.map_append, List.sum_append]
  simp
theorem wds_tot : ∀ (ss : List ByteArray), ss.all (fun s => decide (s.size % 8 = 0)) = true → 8 * wds ss = tot ss
  | [], _ => rfl
  | s :: r, h => by
    simp only [List.all_cons, Bool.and_eq_true, decide_eq_true_eq] at h
    have := wds_tot r h.2
    simp only [wds, tot, List.map_cons, List.sum_cons] at this ⊢
    omega
theorem wds_le (ss : List ByteArray) : wds ss ≤ tot ss := by
  induction ss with
  | nil => exact Nat.le_refl _
  | cons s r ih => simp only [wds, tot, List.map_cons, List.sum_cons] at ih ⊢; omega
theorem all_false {ss : List ByteArray} {k : Nat} (h : k < ss.length) (hn : ¬ (ss[k]).size % 8 = 0) : ss.all (fun s => decide (s.size % 8 = 0)) = false := by
  rw [List.all_eq_false]
  exact ⟨ss[k], List.getElem_mem h, by simpa using hn⟩
theorem all_upto {ss : List ByteArray} {k : Nat} (hk : k < ss.length) (h : (ss.take k).all (fun s => decide (s.size % 8 = 0)) = true) (hm : (ss[k]).size % 8 = 0) : (ss.take (k + 1)).all (fun s => decide (s.size % 8 = 0)) = true := by
  rw [List.take_succ_eq_append_getElem hk, List.all_append, h]
  simpa using hm

set_option maxHeartbeats 400000 in
theorem specFrameOk_any (A : Option Addr) (cap : Nat) (ss : List ByteArray) (w : World) (h : Strs w A ss) (hn : ss.length ≤ 1048576) (ht : tot ss ≤ 1099511627776) :
    Calls Tryd.prog 56 #[.slice A ss.length cap] w fun e w' => e = .returned (.bool (frOk ss)) ∧ w = w' := by
  have H := Lib.hid h
  clear h
  go_enter Tryd.func56, Tryd.ntmps56
  go_wp2
  go_loop [3, 4] (fun m i => ∃ k : Nat, k ≤ ss.length ∧ i = .int .i64 k ∧ m = .int .i64 (wds (ss.take k) : Nat) ∧ Hid ((ss.take k).all (fun s => decide (s.size % 8 = 0)) = true)) (fun _ i => ss.length - (intOf i).toNat)
  case atStart => exact ⟨0, by omega, rfl, by simp [wds], by simp [Hid]⟩
  case round =>
    obtain ⟨k, hk, rfl, rfl, HA⟩ := hrel
    have hw1 : wds (ss.take k) ≤ 1099511627776 := Nat.le_trans (wds_le _) (Nat.le_trans (tot_take_le ss k) ht)
    by_cases hk1 : k < ss.length
    · obtain ⟨a, rfl, _, hc⟩ := H.out.2.resolve_left (by intro h; rw [h] at hk1; simp at hk1)
      have hck := hc k hk1
      have hsz := H.out.1 ss[k] (List.getElem_mem hk1)
      unfold maxLen at hsz
      have hsz2 : (ss[k]).size ≤ 1099511627776 := by
        have h1 := tot_take ss k hk1
        have h2 := tot_take_le ss (k + 1)
        omega
      clear hc
      by_cases hm : (ss[k]).size % 8 = 0
      · have hA' := all_upto hk1 HA.out hm
        have HA' := Lib.hid hA'
        have hwt := wds_take ss k hk1
        have HW := Lib.hid hwt
        have hm0 : (((ss[k]).size : Int) % 8 != 0) = false := by simp; omega
        clear hA' hwt hm
        go_wp2
        go_round
        case rel => exact ⟨k + 1, by omega, by go_num, by rw [HW.out]; go_num, HA'.out⟩
        case measure => simp [intOf]; omega
      · have hm0 : (((ss[k]).size : Int) % 8 != 0) = true := by simp; omega
        have hf := all_false hk1 hm
        have HF := Lib.hid hf
        clear hf hm
        go_wp2
        go_ret
        exact ⟨ret_bool (by rw [frOk, HF.out]; simp), rfl⟩
    · obtain rfl : k = ss.length := by omega
      have hall : ss.all (fun s => decide (s.size % 8 = 0)) = true := by have := HA.out; rwa [List.take_of_length_le (Nat.le_refl _)] at this
      have hwt := wds_tot ss hall
      rw [List.take_of_length_le (Nat.le_refl _)] at hw1
      have hfin : frOk ss = (inB ss.length 1 6 && decide ((wds ss : Int) ≤ 200)) := by
        rw [frOk, hall, Bool.true_and, inB, Bool.eq_iff_iff]
        simp
        omega
      have HF := Lib.hid hfin
      clear hall hwt hfin
      cases hin : inB ss.length 1 6
      all_goals
        go_wp2_with (go_at_call 66; refine (l1In_any _ _ _ _).mono ?_; rintro e w' ⟨rfl, rfl⟩)
        all_goals go_ret
        all_goals refine ⟨ret_bool ?_, rfl⟩
        all_goals (rw [HF.out, hin]; simp; try assumption)

set_option maxHeartbeats 400000 in
theorem implFrameOk_any (A : Option Addr) (cap : Nat) (ss : List ByteArray) (w : World) (h : Strs w A ss) (hn : ss.length ≤ 1048576) :
    Calls Tryd.prog 14 #[.slice A ss.length cap] w fun e w' => e = .returned (.bool (frOk ss)) ∧ w = w' := by
  have H := Lib.hid h
  clear h
  by_cases h1 : ss.length < 1
  · have hf : frOk ss = false := by rw [frOk, decide_eq_false (by omega), Bool.false_and]
    rw [hf]
    clear hf
    go_enter Tryd.func14, Tryd.ntmps14
    go_wp2
    go_ret
    exact ⟨rfl, rfl⟩
  have h1 : 1 ≤ ss.length := by omega
  by_cases h6 : 6 < ss.length
  · have hf : frOk ss = false := by rw [frOk, decide_eq_false (by omega), Bool.false_and]
    rw [hf]
    clear hf
    go_enter Tryd.func14, Tryd.ntmps14
    go_wp2
    go_ret
    exact ⟨rfl, rfl⟩
  have h6 : ss.length ≤ 6 := by omega
  go_enter Tryd.func14, Tryd.ntmps14
  go_wp2
  go_loop [3, 5, 16] (fun m _ i => ∃ k : Nat, k ≤ ss.length ∧ i = .int .i64 k ∧ m = .int .i64 (tot (ss.take k) : Nat) ∧ tot (ss.take k) ≤ 1600 * k ∧ Hid ((ss.take k).all (fun s => decide (s.size % 8 = 0)) = true)) (fun _ _ i => ss.length - (intOf i).toNat)
  case atStart => exact ⟨0, by omega, rfl, by simp [tot], by simp [tot], by simp [Hid]⟩
  case round =>
    obtain ⟨k, hk, rfl, rfl, hT, HA⟩ := hrel
    by_cases hk1 : k < ss.length
    · obtain ⟨a, rfl, _, hc⟩ := H.out.2.resolve_left (by intro h; rw [h] at hk1; simp at hk1)
      have hck := hc k hk1
      have hsz := H.out.1 ss[k] (List.getElem_mem hk1)
      clear hc
      cases hw : wordsB (ss[k]).size
      · have hf : frOk ss = false := by
          rw [Bool.eq_false_iff]
          intro hok
          simp only [frOk, Bool.and_eq_true, decide_eq_true_eq] at hok
          obtain ⟨_, ha, ht⟩ := hok
          have hm : (ss[k]).size % 8 = 0 := by simpa using List.all_eq_true.1 ha ss[k] (List.getElem_mem hk1)
          have h1 := tot_take ss k hk1
          have h2 := tot_take_le ss (k + 1)
          have : wordsB (ss[k]).size = true := by rw [wordsB, decide_eq_true]; omega
          rw [this] at hw
          cases hw
        have HF := Lib.hid hf
        clear hf
        go_wp2_with (go_at_call 37; refine (isWords_any _ _ hsz).mono ?_; rintro e w' ⟨rfl, rfl⟩)
        go_ret
        exact ⟨ret_bool HF.out.symm, rfl⟩
      · have hw8 : (ss[k]).size % 8 = 0 ∧ (ss[k]).size ≤ 1600 := by simpa [wordsB] using hw
        obtain ⟨hm, hle⟩ := hw8
        have hA' := all_upto hk1 HA.out hm
        have HA' := Lib.hid hA'
        have htt := tot_take ss k hk1
        have hT' : tot (ss.take (k + 1)) ≤ 1600 * (k + 1) := by omega
        have HT' := Lib.hid hT'
        have HTT := Lib.hid htt
        clear hA' htt hm hT'
        go_wp2_with (go_at_call 37; refine (isWords_any _ _ hsz).mono ?_; rintro e w' ⟨rfl, rfl⟩)
        go_round
        case rel => exact ⟨k + 1, by omega, by go_num, by rw [HTT.out]; go_num, HT'.out, HA'.out⟩
        case measure => simp [intOf]; omega
    · obtain rfl : k = ss.length := by omega
      have hall : ss.all (fun s => decide (s.size % 8 = 0)) = true := by have := HA.out; rwa [List.take_of_length_le (Nat.le_refl _)] at this
      have hfin : frOk ss = decide ((tot ss : Int) ≤ 1600) := by
        rw [frOk, hall, Bool.true_and, decide_eq_true (show 1 ≤ ss.length ∧ ss.length ≤ 6 by omega), Bool.true_and, Bool.eq_iff_iff]
        simp
        omega
      have HF := Lib.hid hfin
      clear hall hfin
      go_wp2
      go_ret
      refine ⟨ret_bool ?_, rfl⟩
      rw [HF.out]

end Go.Proofs.YtfiiopchfmcjdabDoor

/- impl's word.put: the word with a number in the size bytes from at on (at and size within the word, the number of 64 bits). -/
namespace Go.Proofs.YtfiiopchfmcjdabDoor
open Go.RowKit

set_option maxHeartbeats 1000000 in
theorem put_any (l : List UInt8) (at_ size n : Int) (w : World) (hl : l.length = 8) (h0 : 0 ≤ at_) (h1 : 0 ≤ size) (h2 : at_ + size ≤ 8) (hn0 : 0 ≤ n) (hn1 : n < 18446744073709551616) :
    Calls Tryd.prog 160 #[.agg (wd l), .int .i64 at_, .int .i64 size, .int .u64 n] w fun e w' => e = .returned (.agg (wd (putL l at_.toNat (leB n size.toNat)))) ∧ Below w.heap.size w w' := by
  obtain ⟨a, rfl⟩ := Int.eq_ofNat_of_zero_le h0
  obtain ⟨z, rfl⟩ := Int.eq_ofNat_of_zero_le h1
  have HL := Lib.hid hl
  clear hl
  go_enter Tryd.func160, Tryd.ntmps160
  go_wp2
  go_loopw [3, 9] (fun m i wr => ∃ k : Nat, k ≤ z ∧ i = .int .i64 ((a : Int) + k) ∧ m = .int .u64 (shr8 n k) ∧ Hid (wr.heap[w.heap.size]? = some (.cells (wd (putL l a (leB n k))) 136 (0, 0))) ∧ Hid (wr.heap[w.heap.size + 1]? = some (.cells #[.int .u8 0, .int .u8 0, .int .u8 0, .int .u8 0, .int .u8 0, .int .u8 0, .int .u8 0, .int .u8 0] 136 (0, 0))) ∧ Hid (Below w.heap.size w wr)) (fun _ i _ => (a + z - intOf i).toNat)
  case atStart =>
    refine ⟨0, by omega, by simp, rfl, ?_, ?_, ?_⟩
    · rw [leB, putL_nil]; exact heap_alloc2_old w _ _
    · exact heap_alloc2_new w _ _
    · exact ((Below.refl _ _).alloc (Nat.le_refl _) _).alloc (by simp) _
  case round =>
    obtain ⟨k, hk, rfl, rfl, HW, HZ, HB⟩ := hrel
    have hbd := shr8_bd n k hn0 hn1
    obtain ⟨hb0, hb1⟩ := hbd
    by_cases hlt : k < z
    · have hcell := wd_cell_row HW.out (a + k) (by rw [putL_length _ _ _ (by rw [leB_length, HL.out]; omega), HL.out]; omega)
      have hfr := frozen_row HW.out (a + k)
      go_wp2
      go_roundw
      case rel =>
        exact ⟨k + 1, by omega, by go_num, rfl, put_step l a n k (by rw [HL.out]; omega) HW.out, heap_set_far _ (by omega) HZ.out, HB.out.setCell (Nat.le_refl _) _⟩
      case measure => simp [intOf]; omega
    · obtain rfl : k = z := by omega
      have hpl : (putL l a (leB n k)).length = 8 := by rw [putL_length _ _ _ (by rw [leB_length, HL.out]; omega), HL.out]
      have HP := Lib.hid hpl
      clear hpl
      go_wp2_with (first | (refine wpList_load_wd rfl 136 (.tmp 4) rfl w.heap.size rfl 136 _ _ HW.out Tryd.underlying136 rfl (by rw [HP.out]; exact size46) ?_) | (refine wpList_store_wd rfl 136 (.tmp 8) (.tmp 24) rfl (w.heap.size + 1) _ rfl rfl 136 _ HZ.out (by rw [HP.out]; exact size46) (by rw [HP.out]; rfl) ?_; intro w5 hg5 hb5))
      refine bodyPost_ret (v := .agg (wd (putL l a (leB n k)))) ?_ rfl ⟨by simp, HB.out.grown hb5.out (by have := HB.out.size; omega) (fun k e => by cases e; simp)⟩
      exact results_cell_row rfl _ _ (w.heap.size + 1) 136 _ (0, 0) _ rfl hg5.out Tryd.underlying136 rfl (by rw [wd_size, HP.out]; exact size46)

end Go.Proofs.YtfiiopchfmcjdabDoor

/- impl's word.text: the bytes of a word. -/
namespace Go.Proofs.YtfiiopchfmcjdabDoor
open Go.RowKit

set_option maxHeartbeats 400000 in
theorem text_any (l : List UInt8) (w : World) (hl : l.length = 8) :
    Calls Tryd.prog 170 #[.agg (wd l)] w fun e w' => e = .returned (.string ⟨l.toArray⟩) ∧ Below w.heap.size w w' := by
  have hrow := heap_alloc_new w (.cells (wd l) 136)
  have hcv : (convert 22 9 (.slice (some ⟨w.heap.size, 0, none⟩) 8 8)).run Tryd.prog (w.alloc (.cells (wd l) 136)) = .ok (.string ⟨l.toArray⟩) (w.alloc (.cells (wd l) 136)) := by
    exact convert_wd _ _ _ _ _ _ 8 l hl Tryd.underlying22 Tryd.underlying5 Tryd.underlying9 hrow (by rw [List.take_of_length_le (by simp [wd, Lib.byteCells_length, hl])]; simp [wd])
  have HL := Lib.hid hl
  clear hl hrow
  go_enter Tryd.func170, Tryd.ntmps170
  go_wp2
  go_ret
  exact ⟨rfl, (Below.refl _ _).alloc (Nat.le_refl _) _⟩
theorem text_lit (b0 b1 b2 b3 b4 b5 b6 b7 : UInt8) (w : World) :
    Calls Tryd.prog 170 #[.agg #[.int .u8 b0.toNat, .int .u8 b1.toNat, .int .u8 b2.toNat, .int .u8 b3.toNat, .int .u8 b4.toNat, .int .u8 b5.toNat, .int .u8 b6.toNat, .int .u8 b7.toNat]] w fun e w' =>
      e = .returned (.string ⟨#[b0, b1, b2, b3, b4, b5, b6, b7]⟩) ∧ Below w.heap.size w w' := text_any [b0, b1, b2, b3, b4, b5, b6, b7] w rfl
end Go.Proofs.YtfiiopchfmcjdabDoor

/- The specification's l1Bytes: a number as so many bytes, the lowest first. -/
namespace Go.Proofs.YtfiiopchfmcjdabDoor
open Go.RowKit

theorem info5 : (Tryd.prog.info? 5).map (fun i => (i.zero, i.size, i.bytes)) = some (some (.int .u8 0), 1, 1) := by kernel_rfl
set_option maxHeartbeats 400000 in
theorem l1Bytes_any (n size : Int) (w : World) (h0 : 0 ≤ size) (h1 : size ≤ 1000000) :
    Calls Tryd.prog 57 #[.int .i64 n, .int .i64 size] w fun e w' => e = .returned (.string ⟨(leB n size.toNat).toArray⟩) ∧ Below w.heap.size w w' := by
  obtain ⟨z, rfl⟩ := Int.eq_ofNat_of_zero_le h0
  obtain ⟨i0, hi, hz0, hz1, hz2⟩ := info_parts info5
  go_enter Tryd.func57, Tryd.ntmps57
  go_wp2
  go_loopw [0, 5, 6] (fun m v i wr => ∃ k : Nat, k ≤ z ∧ i = .int .i64 k ∧ m = .int .i64 (shr8 n k) ∧ Hid (wr.ownsRow w.heap.size 5 1 v k (Lib.byteCells (leB n k))) ∧ Hid (Below w.heap.size w wr)) (fun _ _ i _ => (z - intOf i).toNat)
  case atStart => exact ⟨0, by omega, rfl, rfl, World.ownsRow_made w #[] 0 (Nat.le_refl _) (by decide) rfl, (Below.refl _ _).alloc (Nat.le_refl _) _⟩
  case round =>
    obtain ⟨k, hk, rfl, rfl, hown, HB⟩ := hrel
    by_cases hlt : k < z
    · have hb : Hid (∀ b : Int, b = ((UInt8.ofNat (shr8 n k % 256).toNat).toNat : Int) → Lib.byteCells (leB n k) ++ [.int .u8 b] = Lib.byteCells (leB n (k + 1))) := fun b hb => by rw [hb, byteCells_snoc', ← leB_snoc]
      go_wp2_with (at_builtin; go_must (refine wpList_append_own _ rfl (.tmp 13) (.tmp 16) 22 rfl w.heap.size 5 i0 (.int .u8 0) 1 1 Tryd.underlying22 hi hz0 hz1 hz2 rfl (by decide) u5 _ _ rfl (hown.out.alloc _) ⟨wr.heap.size, 0, none⟩ 1 1 [_] rfl rfl (cell_one_new _ _ _) (by simp [Value.oneCell']) (by unfold maxLen; omega) (by omega) (by have := HB.out.size; simp; omega) ?_); intro v' w1 hown' hgrow _)
      have hrel' : w1.ownsRow w.heap.size 5 1 v' (k + 1) (Lib.byteCells (leB n (k + 1))) := by rw [← hb.out _ (ofNat_toNat_u8 _).symm]; exact hown'
      have hB' : Below w.heap.size w w1 := below_append HB.out HB.out.size hown.out hgrow
      go_roundw
      case rel => exact ⟨k + 1, by omega, by go_num, rfl, hrel', hB'⟩
      case measure => simp [intOf]; omega
    · obtain rfl : k = z := by omega
      have hcv := convert_own (P := Tryd.prog) wr 22 9 5 w.heap.size k (leB n k) u5 (leB_length n k) Tryd.underlying22 Tryd.underlying5 Tryd.underlying9 hown.out
      go_wp2
      go_ret
      exact ⟨by simp, HB.out⟩

end Go.Proofs.YtfiiopchfmcjdabDoor

/- The parts of a pointer's word as numbers. -/
namespace Go.Proofs.YtfiiopchfmcjdabDoor
open Go.RowKit
theorem nat_low (a n : Nat) : a &&& (2 ^ n - 1) = a % 2 ^ n := Nat.and_two_pow_sub_one_eq_mod a n
theorem nat_four (a : Nat) : a &&& 4 = 4 * (a / 4 % 2) := by
  have h : a &&& 4 = (a % 8) &&& 4 := by
    rw [show a % 8 = a &&& 7 from (nat_low a 3).symm, Nat.and_assoc]
    rfl
  have h8 : ∀ r : Nat, r < 8 → r &&& 4 = 4 * (r / 4 % 2) := by decide
  rw [h, h8 _ (Nat.mod_lt _ (by decide))]
  omega
theorem ofInt_32 (a : Nat) (ha : a < 4294967296) : (BitVec.ofInt 32 (a : Int)).toNat = a := by
  rw [BitVec.toNat_ofInt]
  omega
theorem and_u32 (a b : Nat) (ha : a < 4294967296) (hb : b < 4294967296) : bits .and .u32 (a : Int) (b : Int) = ((a &&& b : Nat) : Int) := by
  have hx : a &&& b < 2 ^ 32 := Nat.and_lt_two_pow _ (by omega)
  show IntKind.u32.wrap ((BitVec.ofInt 32 (a : Int) &&& BitVec.ofInt 32 (b : Int)).toNat : Int) = _
  rw [BitVec.toNat_and, ofInt_32 a ha, ofInt_32 b hb, IntKind.wrap_u32]
  omega
theorem and3_64 (a : Nat) (h : a < 4294967296) : bits .and .i64 (a : Int) 3 = ((a % 4 : Nat) : Int) := by
  rw [show (3 : Int) = ((3 : Nat) : Int) from rfl, and_i64 _ _ (by omega) (by omega), nat_low a 2]
theorem and7_64 (a : Nat) (h : a < 4294967296) : bits .and .i64 (a : Int) 7 = ((a % 8 : Nat) : Int) := by
  rw [show (7 : Int) = ((7 : Nat) : Int) from rfl, and_i64 _ _ (by omega) (by omega), nat_low a 3]
theorem andw_64 (a : Nat) (h : a < 4294967296) : bits .and .i64 (a : Int) 65535 = ((a % 65536 : Nat) : Int) := by
  rw [show (65535 : Int) = ((65535 : Nat) : Int) from rfl, and_i64 _ _ (by omega) (by omega), nat_low a 16]
theorem and4_64 (a : Nat) (h : a < 4294967296) : bits .and .i64 (a : Int) 4 = ((4 * (a / 4 % 2) : Nat) : Int) := by
  rw [show (4 : Int) = ((4 : Nat) : Int) from rfl, and_i64 _ _ (by omega) (by omega), nat_four]
theorem and3_32 (a : Nat) (h : a < 4294967296) : bits .and .u32 (a : Int) 3 = ((a % 4 : Nat) : Int) := by
  rw [show (3 : Int) = ((3 : Nat) : Int) from rfl, and_u32 _ _ (by omega) (by omega), nat_low a 2]
theorem and7_32 (a : Nat) (h : a < 4294967296) : bits .and .u32 (a : Int) 7 = ((a % 8 : Nat) : Int) := by
  rw [show (7 : Int) = ((7 : Nat) : Int) from rfl, and_u32 _ _ (by omega) (by omega), nat_low a 3]
theorem andw_32 (a : Nat) (h : a < 4294967296) : bits .and .u32 (a : Int) 65535 = ((a % 65536 : Nat) : Int) := by
  rw [show (65535 : Int) = ((65535 : Nat) : Int) from rfl, and_u32 _ _ (by omega) (by omega), nat_low a 16]
theorem and4_32 (a : Nat) (h : a < 4294967296) : bits .and .u32 (a : Int) 4 = ((4 * (a / 4 % 2) : Nat) : Int) := by
  rw [show (4 : Int) = ((4 : Nat) : Int) from rfl, and_u32 _ _ (by omega) (by omega), nat_four]
/-- thirty bits as a number that may be below 0. -/
def sgn (lo : Nat) : Int := if lo < 2147483648 then ((lo / 4 : Nat) : Int) else ((lo / 4 : Nat) : Int) - 1073741824
/-- the pointer that two halves of a word say. -/
def getP (lo hi : Nat) : Int × Int × Int × Int × Int × Int × Int × Bool :=
  if lo = 0 ∧ hi = 0 then (0, 0, 0, 0, 0, 0, 0, false) else if lo % 4 = 0 then (1, sgn lo, ((hi % 65536 : Nat) : Int), ((hi / 65536 : Nat) : Int), 0, 0, 0, false)
  else if lo % 4 = 1 then (2, sgn lo, 0, 0, ((hi % 8 : Nat) : Int), ((hi / 8 : Nat) : Int), 0, false) else if lo % 4 = 2 then (3, ((lo / 8 : Nat) : Int), 0, 0, 0, 0, (hi : Int), decide (lo / 4 % 2 = 1)) else (4, 0, 0, 0, 0, 0, 0, false)
theorem four_bytes (l : List UInt8) (a : Nat) : leN l a 4 = 0 ↔ l[a]?.getD 0 = 0 ∧ l[a + 1]?.getD 0 = 0 ∧ l[a + 2]?.getD 0 = 0 ∧ l[a + 3]?.getD 0 = 0 := by
  have h : leN l a 4 = (l[a]?.getD 0).toNat + 256 * ((l[a + 1]?.getD 0).toNat + 256 * ((l[a + 2]?.getD 0).toNat + 256 * ((l[a + 3]?.getD 0).toNat + 256 * 0))) := rfl
  rw [h, ← UInt8.toNat_inj, ← UInt8.toNat_inj, ← UInt8.toNat_inj, ← UInt8.toNat_inj]
  simp only [UInt8.toNat_zero]
  omega
end Go.Proofs.YtfiiopchfmcjdabDoor

/- Plain facts: the word of a pointer is read back. No Go text. -/
namespace Go.Proofs.YtfiiopchfmcjdabDoor
open Go.RowKit
theorem shr_all (n : Int) : ∀ k, shr8 n k = n / 256 ^ k
  | 0 => by simp [shr8]
  | k + 1 => by rw [shr8, shr_all n k, Int.pow_succ, Int.ediv_ediv_of_nonneg (Int.pow_nonneg (by decide))]
theorem leB_add (n : Int) : ∀ (a b : Nat), leB n (a + b) = leB n a ++ leB (n / 256 ^ a) b
  | 0, b => by simp [leB]
  | a + 1, b => by
    rw [show a + 1 + b = (a + b) + 1 by omega, leB, leB, leB_add (n / 256) a b, List.cons_append, Int.pow_succ, Int.mul_comm (256 ^ a) 256, Int.ediv_ediv_of_nonneg (by decide)]
theorem leB_md (n m : Int) : ∀ (k : Nat) (c : Int), n = m + c * 256 ^ k → leB n k = leB m k
  | 0, _, _ => rfl
  | k + 1, c, h => by
    have e : n = m + 256 * (c * 256 ^ k) := by rw [h, Int.pow_succ, Int.mul_comm (256 ^ k) 256, ← Int.mul_assoc, Int.mul_comm c 256, Int.mul_assoc]
    rw [leB, leB, leB_md (n / 256) (m / 256) k c (by omega), show n % 256 = m % 256 by omega]
/-- eight bytes of two numbers. -/
theorem leB_two (lo hi : Int) (h0 : 0 ≤ lo) (h1 : lo < 4294967296) : leB (lo + 4294967296 * hi) 8 = leB lo 4 ++ leB hi 4 := by
  have h := leB_add (lo + 4294967296 * hi) 4 4
  have e : (256 : Int) ^ 4 = 4294967296 := rfl
  rw [e, show (lo + 4294967296 * hi) / 4294967296 = hi by omega] at h
  rw [h, leB_md (lo + 4294967296 * hi) lo 4 hi (by rw [e]; omega)]
theorem leB_four (d p : Int) (h0 : 0 ≤ d) (h1 : d < 65536) : leB (d + 65536 * p) 4 = leB d 2 ++ leB p 2 := by
  have h := leB_add (d + 65536 * p) 2 2
  have e : (256 : Int) ^ 2 = 65536 := rfl
  rw [e, show (d + 65536 * p) / 65536 = p by omega] at h
  rw [h, leB_md (d + 65536 * p) d 2 p (by rw [e]; omega)]
/-- a distance in its thirty bits. -/
def offN (o : Int) : Int := o % 1073741824 * 4
theorem offN_bd (o : Int) : 0 ≤ offN o ∧ offN o ≤ 4294967292 := by unfold offN; omega
theorem sgn_off (o : Int) (lo : Nat) (hl : (lo : Int) = offN o ∨ (lo : Int) = offN o + 1) (h0 : -536870912 ≤ o) (h1 : o ≤ 536870911) : sgn lo = o := by
  unfold offN at hl
  unfold sgn
  split <;> omega
theorem getP_str (o d p : Int) (lo hi : Nat) (hlo : (lo : Int) = offN o) (hhi : (hi : Int) = d + 65536 * p) (h0 : -536870912 ≤ o) (h1 : o ≤ 536870911) (hd0 : 0 ≤ d) (hd1 : d < 65536) (hp0 : 0 ≤ p) (_hp1 : p < 65536) (hz : ¬ (o = 0 ∧ d = 0 ∧ p = 0)) :
    getP lo hi = (1, o, d, p, 0, 0, 0, false) := by
  have hs := sgn_off o lo (.inl hlo) h0 h1
  have hne : ¬ (lo = 0 ∧ hi = 0) := by unfold offN at hlo; omega
  have h4 : lo % 4 = 0 := by unfold offN at hlo; omega
  rw [getP, if_neg hne, if_pos h4, hs, show ((hi % 65536 : Nat) : Int) = d by omega, show ((hi / 65536 : Nat) : Int) = p by omega]
theorem getP_lis (o s c : Int) (lo hi : Nat) (hlo : (lo : Int) = offN o + 1) (hhi : (hi : Int) = c * 8 + s) (h0 : -536870912 ≤ o) (h1 : o ≤ 536870911) (hs0 : 0 ≤ s) (hs1 : s < 8) (hc0 : 0 ≤ c) :
    getP lo hi = (2, o, 0, 0, s, c, 0, false) := by
  have hs := sgn_off o lo (.inr hlo) h0 h1
  have h4 : lo % 4 = 1 := by unfold offN at hlo; omega
  rw [getP, if_neg (by omega), if_neg (by omega), if_pos h4, hs, show ((hi % 8 : Nat) : Int) = s by omega, show ((hi / 8 : Nat) : Int) = c by omega]
theorem getP_far (o g : Int) (t : Bool) (lo hi : Nat) (hlo : (lo : Int) = if t then o * 8 + 6 else o * 8 + 2) (hhi : (hi : Int) = g) (h0 : 0 ≤ o) :
    getP lo hi = (3, o, 0, 0, 0, 0, g, t) := by
  cases t
  · simp only [Bool.false_eq_true, if_false] at hlo
    rw [getP, if_neg (by omega), if_neg (by omega), if_neg (by omega), if_pos (by omega), show ((lo / 8 : Nat) : Int) = o by omega, hhi, show decide (lo / 4 % 2 = 1) = false by simp; omega]
  · simp only [if_true] at hlo
    rw [getP, if_neg (by omega), if_neg (by omega), if_neg (by omega), if_pos (by omega), show ((lo / 8 : Nat) : Int) = o by omega, hhi, show decide (lo / 4 % 2 = 1) = true by simp; omega]
/-- the two numbers of a word. -/
theorem two_of (lo hi : Int) (h0 : 0 ≤ lo) (h1 : lo < 4294967296) (g0 : 0 ≤ hi) (g1 : hi < 4294967296) :
    ((leN (leB lo 4 ++ leB hi 4) 0 4 : Nat) : Int) = lo ∧ ((leN (leB lo 4 ++ leB hi 4) 4 4 : Nat) : Int) = hi := by
  have e : (256 : Int) ^ 4 = 4294967296 := rfl
  constructor
  · rw [leN_congr (leB lo 4 ++ leB hi 4) (leB lo 4) 4 0 0 (fun i hi => by rw [List.getElem?_append_left (by rw [leB_length]; omega)]), leN_leB, e]; omega
  · rw [leN_congr (leB lo 4 ++ leB hi 4) (leB hi 4) 4 4 0 (fun i hi => by rw [List.getElem?_append_right (by rw [leB_length]; omega), leB_length]; congr 1; omega), leN_leB, e]; omega
theorem word_two (l : List UInt8) (h : l.length = 8) : leB ((leN l 0 4 : Nat) : Int) 4 ++ leB ((leN l 4 4 : Nat) : Int) 4 = l := by
  rw [leB_leN l 4 0 (by omega), leB_leN l 4 4 (by omega), List.drop_zero, List.take_of_length_le (l := l.drop 4) (by simp; omega), List.take_append_drop]
/-- what a word says can be written, as that word. -/
theorem getP_put (lo hi : Nat) (hlo : lo < 4294967296) (hhi : hi < 4294967296) :
    (lo = 0 ∧ hi = 0 ∧ getP lo hi = (0, 0, 0, 0, 0, 0, 0, false)) ∨
    (∃ o d p : Int, getP lo hi = (1, o, d, p, 0, 0, 0, false) ∧ (-536870912 ≤ o ∧ o ≤ 536870911) ∧ (0 ≤ d ∧ d < 65536) ∧ (0 ≤ p ∧ p < 65536) ∧ ¬ (o = 0 ∧ d = 0 ∧ p = 0) ∧ offN o = lo ∧ d + 65536 * p = hi) ∨
    (∃ o s c : Int, getP lo hi = (2, o, 0, 0, s, c, 0, false) ∧ (-536870912 ≤ o ∧ o ≤ 536870911) ∧ (0 ≤ s ∧ s < 8) ∧ (0 ≤ c ∧ c < 536870912) ∧ offN o + 1 = lo ∧ c * 8 + s = hi) ∨
    (∃ (o g : Int) (t : Bool), getP lo hi = (3, o, 0, 0, 0, 0, g, t) ∧ (0 ≤ o ∧ o ≤ 536870911) ∧ (0 ≤ g ∧ g < 4294967296) ∧ (if t then o * 8 + 6 else o * 8 + 2) = (lo : Int) ∧ g = hi) ∨
    getP lo hi = (4, 0, 0, 0, 0, 0, 0, false) := by
  by_cases h00 : lo = 0 ∧ hi = 0
  · exact .inl ⟨h00.1, h00.2, by rw [getP, if_pos h00]⟩
  by_cases h0 : lo % 4 = 0
  · refine .inr (.inl ⟨sgn lo, ((hi % 65536 : Nat) : Int), ((hi / 65536 : Nat) : Int), by rw [getP, if_neg h00, if_pos h0], ?_, by omega, by omega, ?_, ?_, by omega⟩)
    · unfold sgn; split <;> omega
    · unfold sgn; split <;> omega
    · unfold sgn offN; split <;> omega
  by_cases h1 : lo % 4 = 1
  · refine .inr (.inr (.inl ⟨sgn lo, ((hi % 8 : Nat) : Int), ((hi / 8 : Nat) : Int), by rw [getP, if_neg h00, if_neg h0, if_pos h1], ?_, by omega, by omega, ?_, by omega⟩))
    · unfold sgn; split <;> omega
    · unfold sgn offN; split <;> omega
  by_cases h2 : lo % 4 = 2
  · refine .inr (.inr (.inr (.inl ⟨((lo / 8 : Nat) : Int), (hi : Int), decide (lo / 4 % 2 = 1), by rw [getP, if_neg h00, if_neg h0, if_neg h1, if_pos h2], by omega, by omega, ?_, rfl⟩)))
    by_cases ht : lo / 4 % 2 = 1
    · rw [if_pos (by simpa using ht)]; omega
    · rw [if_neg (by simpa using ht)]; omega
  · exact .inr (.inr (.inr (.inr (by rw [getP, if_neg h00, if_neg h0, if_neg h1, if_neg h2]))))
end Go.Proofs.YtfiiopchfmcjdabDoor

/- The word of a pointer: plain facts on its two numbers; impl's wordOf. -/
namespace Go.Proofs.YtfiiopchfmcjdabDoor
open Go.RowKit
def zeros8 : List UInt8 := [0, 0, 0, 0, 0, 0, 0, 0]
theorem put_zero (n : Int) (w : World) (hn0 : 0 ≤ n) (hn1 : n < 18446744073709551616) :
    Calls Tryd.prog 160 #[.agg #[.int .u8 0, .int .u8 0, .int .u8 0, .int .u8 0, .int .u8 0, .int .u8 0, .int .u8 0, .int .u8 0], .int .i64 0, .int .i64 8, .int .u64 n] w fun e w' => e = .returned (.agg (wd (leB n 8))) ∧ Below w.heap.size w w' := by
  have hput : putL zeros8 (0 : Int).toNat (leB n (8 : Int).toNat) = leB n 8 := by
    show putL zeros8 0 (leB n 8) = leB n 8
    rw [putL, leB_length, zeros8]; simp
  have h := put_any zeros8 0 8 n w rfl (by decide) (by decide) (by decide) hn0 hn1
  rw [hput] at h
  exact h
end Go.Proofs.YtfiiopchfmcjdabDoor

/- strings.Builder's copyCheck, WriteByte and String over this program: a builder that the call itself has made holds these bytes. -/
namespace Go.Proofs.YtfiiopchfmcjdabDoor
open Go.RowKit

theorem binfo5 : (Tryd.prog.info? 5).map (fun i => (i.zero, i.size, i.bytes)) = some (some (.int .u8 0), 1, 1) := by kernel_rfl

theorem pair_set {w : World} {b : Nat} {p v q : Value} {T : TypeId} (h : w.heap[b]? = some (.cells #[p, v] T (0, 0))) : (w.setCell ⟨b, 0, none⟩ q).heap[b]? = some (.cells #[q, v] T (0, 0)) := by
  simp [World.setCell, Array.getElem?_modify, h]
theorem set_grown (w : World) (b i : Nat) (u : Value) : w.grownBy (w.setCell ⟨b, i, none⟩ u) (some b) :=
  ⟨rfl, rfl, rfl, by simp [World.setCell], fun k _ hk => Below.heap_setCell w ⟨b, i, none⟩ u k (fun e => hk (by rw [e]))⟩
theorem alloc_keeps (w : World) (x : Obj) : Keeps w.heap.size w.heap.size w (w.alloc x) := Keeps.of_below ((Below.refl _ w).alloc (Nat.le_refl _) x)
theorem own_form {w : World} {B e n : Nat} {v : Value} {xs : List Value} (h : w.ownsRow B e 1 v (n + 1) xs) : ∃ g cap, v = .slice (some ⟨g, 0, none⟩) (n + 1) cap :=
  h.2.elim (fun h0 => absurd h0.2 (by omega)) (fun ⟨g, cap, _, hv, _⟩ => ⟨g, cap, hv⟩)

end Go.Proofs.YtfiiopchfmcjdabDoor

/- strings.Builder's WriteString and Len: a builder that the call itself has made. -/
namespace Go.Proofs.YtfiiopchfmcjdabDoor
open Go.RowKit
theorem own_any {w : World} {B e n : Nat} {v : Value} {xs : List Value} (h : w.ownsRow B e 1 v n xs) : ∃ A cap, v = .slice A n cap := by
  rcases h.2 with ⟨rfl, rfl⟩ | ⟨g, cap, _, rfl, _⟩
  · exact ⟨none, 0, rfl⟩
  · exact ⟨_, cap, rfl⟩
end Go.Proofs.YtfiiopchfmcjdabDoor

/- strings.Builder's String over this program: the bytes that the builder holds (the library's contract, at this program's numbers). -/
namespace Go.Proofs.YtfiiopchfmcjdabDoor
open Go.Shelf Go.RowKit
end Go.Proofs.YtfiiopchfmcjdabDoor

/- impl.FramePut and spec.FramePut answer the same at every argument. -/
namespace Go.Proofs.YtfiiopchfmcjdabDoor
open Go.RowKit
theorem sz4 (n : Int) : (⟨(leB n 4).toArray⟩ : ByteArray).size = 4 := by rw [show (⟨(leB n 4).toArray⟩ : ByteArray).size = (leB n 4).length by simp [ByteArray.size], leB_length]
theorem take_leB (n : Int) : (leB n 8).take 4 = leB n 4 := by
  have h := leB_add n 4 4
  rw [show (4 + 4 : Nat) = 8 from rfl] at h
  rw [h, List.take_append_of_le_length (by rw [leB_length]; omega), List.take_of_length_le (by rw [leB_length]; omega)]
def numsL (ss : List ByteArray) : List UInt8 := ss.flatMap fun s => leB ((s.size / 8 : Nat) : Int) 4
def bodyL (ss : List ByteArray) : List UInt8 := ss.flatMap fun s => s.data.toList
def fillL (n : Nat) : List UInt8 := if n % 2 = 0 then leB 0 4 else []
/-- what FramePut answers. -/
def frameL (ss : List ByteArray) : List UInt8 := if frOk ss = true then leB ((ss.length : Int) - 1) 4 ++ numsL ss ++ fillL ss.length ++ bodyL ss else []
theorem numsL_take (ss : List ByteArray) (k : Nat) (h : k < ss.length) : numsL (ss.take (k + 1)) = numsL (ss.take k) ++ leB (((ss[k]).size / 8 : Nat) : Int) 4 := by
  rw [List.take_succ_eq_append_getElem h, numsL, numsL, List.flatMap_append, List.flatMap_cons, List.flatMap_nil, List.append_nil]
theorem bodyL_take (ss : List ByteArray) (k : Nat) (h : k < ss.length) : bodyL (ss.take (k + 1)) = bodyL (ss.take k) ++ (ss[k]).data.toList := by
  rw [List.take_succ_eq_append_getElem h, bodyL, bodyL, List.flatMap_append, List.flatMap_cons, List.flatMap_nil, List.append_nil]
theorem numsL_length : ∀ ss : List ByteArray, (numsL ss).length = 4 * ss.length
  | [] => rfl
  | s :: r => by rw [numsL, List.flatMap_cons, List.length_append, leB_length, ← numsL, numsL_length r, List.length_cons]; omega
theorem bodyL_length : ∀ ss : List ByteArray, (bodyL ss).length = tot ss
  | [] => rfl
  | s :: r => by rw [bodyL, List.flatMap_cons, List.length_append, ← bodyL, bodyL_length r]; simp [tot]
theorem fillL_length (n : Nat) : (fillL n).length ≤ 4 := by unfold fillL; split <;> simp [leB_length]
set_option maxHeartbeats 400000 in
theorem headBytes_any (n : Nat) (w : World) (h : n ≤ 1000) :
    Calls Tryd.prog 63 #[.int .i64 n] w fun e w' => e = .returned (.int .i64 (((n / 2 + 1) * 8 : Nat) : Int)) ∧ w = w' := by
  go_enter Tryd.func63, Tryd.ntmps63
  go_wp2
  go_ret
  exact ⟨ret_int (by omega), rfl⟩
theorem frOk_parts {ss : List ByteArray} (h : frOk ss = true) : (1 ≤ ss.length ∧ ss.length ≤ 6) ∧ tot ss ≤ 1600 := by
  simp only [frOk, Bool.and_eq_true, decide_eq_true_eq] at h
  exact ⟨h.1, h.2.2⟩
theorem strCells_eq (s : ByteArray) : Lib.strCells s = Lib.byteCells s.data.toList := rfl
theorem cells_app (a b : List UInt8) : Lib.byteCells a ++ Lib.byteCells b = Lib.byteCells (a ++ b) := by simp [Lib.byteCells]
theorem mk_cells (l : List UInt8) : Lib.strCells ⟨l.toArray⟩ = Lib.byteCells l := by simp [Lib.strCells, Lib.byteCells]
theorem tot_get (ss : List ByteArray) (k : Nat) (h : k < ss.length) : (ss[k]).size ≤ tot ss := by
  have h1 := tot_take ss k h
  have h2 := tot_take_le ss (k + 1)
  omega
end Go.Proofs.YtfiiopchfmcjdabDoor

/- impl.FrameGet: what it answers at every text of at most 2^40 bytes. -/
namespace Go.Proofs.YtfiiopchfmcjdabDoor
open Go.RowKit
/-- what FrameGet answers. -/
def FG (s : ByteArray) (w : World) (e : Ending) (w' : World) : Prop :=
  ∃ v, e = .returned (.tuple #[v, .int .i64 (fg s).1]) ∧ w'.ownsRow w.heap.size 9 1 v (fg s).2.length ((fg s).2.map Value.string) ∧ Below w.heap.size w w'
theorem FG.none {s : ByteArray} {w w' : World} {c : Int} (h : fg s = (c, [])) (hb : Below w.heap.size w w') : FG s w (.returned (.tuple #[.slice none 0 0, .int .i64 c])) w' :=
  ⟨_, by rw [h], by rw [h]; exact World.ownsRow_nil _ _ _ _, hb⟩
set_option maxHeartbeats 2000000 in
theorem implFrameGet_any (s : ByteArray) (w : World) (hs : s.size ≤ 1099511627776) :
    Calls Tryd.prog 36 #[.string s] w (FG s w) := by
  have hpost : ∃ P : Ending → World → Prop, P = FG s w := ⟨_, rfl⟩
  obtain ⟨P, hP⟩ := hpost
  rw [← hP]
  have HP := Lib.hid hP
  clear hP
  by_cases h4 : s.size < 4
  · have h4' : ((s.size : Nat) : Int) < 4 := by omega
    have hf := fg0 h4
    have HF := Lib.hid hf
    clear hf
    go_enter Tryd.func36, Tryd.ntmps36
    go_wp2
    rw [HP.out]
    exact FG.none HF.out (Below.refl _ _)
  have h4 : 4 ≤ s.size := by omega
  have h4' : ¬ ((s.size : Nat) : Int) < 4 := by omega
  have hg := gN_lt s.data.toList 0
  obtain ⟨n, hn⟩ : ∃ n, gN s.data.toList 0 + 1 = n := ⟨_, rfl⟩
  have hG : ((gN s.data.toList 0 : Nat) : Int) + 1 = (n : Int) := by omega
  have hn1 : 1 ≤ n := by omega
  have HN := Lib.hid hn
  have HGN := Lib.hid hG
  have hGN : Hid (∀ w : World, Calls Tryd.prog 62 #[.string s, .int .i64 0] w fun e w' => e = .returned (.int .i64 ((n : Int) - 1)) ∧ Below w.heap.size w w') := Lib.hid (fun w => by
    have := getNumber_any s 0 w (by unfold maxLen; omega) (by omega)
    rw [show ((gN s.data.toList 0 : Nat) : Int) = (n : Int) - 1 by omega] at this
    exact this)
  have hnl : n ≤ 4294967296 := by omega
  clear hg hn hG
  go_enter Tryd.func36, Tryd.ntmps36
  go_wp2_with fail
  refine (hGN.out _).mono ?_
  rintro e w1 ⟨rfl, hb1⟩
  have HB1 := Lib.hid hb1
  clear hb1
  by_cases h6 : 6 < n
  · have h6' : (6 : Int) < (n : Int) - 1 + 1 := by omega
    go_wp2
    rw [HP.out]
    exact FG.none (fg1 HN.out h4 h6) HB1.out
  have h6' : ¬ (6 : Int) < (n : Int) - 1 + 1 := by omega
  have h6 : n ≤ 6 := by omega
  have he : (n : Int) - 1 + 1 = n := by omega
  have HE := Lib.hid he
  clear he
  go_wp2_with fail
  refine (headBytes_any n _ (by omega)).mono ?_
  rintro e w' ⟨rfl, rfl⟩
  obtain ⟨hd, hhd⟩ : ∃ hd, fgHead n = hd := ⟨_, rfl⟩
  have hhd2 : (n / 2 + 1) * 8 = hd := hhd
  rw [hhd2]
  have hdl : hd ≤ 32 ∧ 8 ≤ hd := by omega
  obtain ⟨hdl, hd8⟩ := hdl
  have HHD := Lib.hid hhd
  clear hhd hhd2
  by_cases hsh : s.size < hd
  · have h7 : ((s.size : Nat) : Int) < (hd : Int) := by omega
    go_wp2
    rw [HP.out]
    exact FG.none (fg2 HN.out h4 h6 (by rw [HHD.out]; exact hsh)) HB1.out
  have hsh : hd ≤ s.size := by omega
  have h7 : ¬ ((s.size : Nat) : Int) < (hd : Int) := by omega
  have hxs : (s.extract 0 hd).size = fgHead n := by rw [HHD.out]; simp; omega
  have hxl : (s.extract 0 hd).data.toList = s.data.toList.take hd := by rw [Lib.extract_data]; simp
  have HFS : Hid (∀ w : World, Calls Tryd.prog 64 #[.string (s.extract 0 hd), .int .i64 n] w (FSz (s.extract 0 hd) n w)) := Lib.hid (fun w => frameSizes_any _ n w hn1 h6 hxs)
  have hsz : szs (s.extract 0 hd).data.toList n = szs s.data.toList n := by
    refine szs_congr n (fun j hj => ?_)
    rw [hxl, List.getElem?_take_of_lt (by have := HHD.out; unfold fgHead at this; omega)]
  have hfz : fgZ (s.extract 0 hd).data.toList n = fgZ s.data.toList n := by
    rw [fgZ, fgZ, hxl, HHD.out, List.take_take, Nat.min_self]
  have HSZ := Lib.hid hsz
  have HFZ := Lib.hid hfz
  clear hxs hxl hsz hfz
  go_wp2_with fail
  refine (HFS.out _).mono ?_
  rintro e w2 ⟨v, rfl, hown, hb2⟩
  rw [HSZ.out, HFZ.out]
  rw [HSZ.out] at hown
  have HB2 := Lib.hid (HB1.out.trans (hb2.mono HB1.out.size))
  obtain ⟨A, cp, rfl⟩ := own_shape hown
  have HON := Lib.hid (Ones.own hown)
  clear hown hb2
  by_cases hbad : fgZ s.data.toList n = false ∨ 200 < (szs s.data.toList n).sum
  · have hb : (fgZ s.data.toList n && decide ((szs s.data.toList n).sum ≤ 200)) = false := by
      rcases hbad with h | h
      · rw [h]; rfl
      · rw [decide_eq_false (by omega)]; simp
    rw [hb]
    clear hb
    have HBAD := Lib.hid hbad
    clear hbad
    go_wp2
    rw [HP.out]
    exact FG.none (fg3 HN.out h4 h6 (by rw [HHD.out]; exact hsh) HBAD.out) HB2.out
  have hz1 : fgZ s.data.toList n = true := by
    cases h : fgZ s.data.toList n
    · exact absurd (.inl h) hbad
    · rfl
  have hz2 : (szs s.data.toList n).sum ≤ 200 := by omega
  rw [hz1, decide_eq_true hz2]
  have HZ1 := Lib.hid hz1
  have HZ2 := Lib.hid hz2
  have hzl := szs_length s.data.toList n
  have HCS : Hid (∀ w : World, Ones w A (szCells (szs s.data.toList n)) → Calls Tryd.prog 65 #[.string s, .int .i64 hd, .slice A n cp] w (fun e w' => if s.size < hd + 8 * (szs s.data.toList n).sum then CutNo w e w' else CutYes s hd (szs s.data.toList n) w e w')) := Lib.hid (fun w h => by
    have := cutSegments_any s hd A cp (szs s.data.toList n) w hs hsh (by omega) hz2 h
    rw [hzl] at this
    exact this)
  have HZL := Lib.hid hzl
  clear hbad hz1 hz2 hzl
  go_wp2_with fail
  refine (HCS.out _ HON.out).mono ?_
  intro e w3 h3
  by_cases hlt : s.size < hd + 8 * (szs s.data.toList n).sum
  · rw [if_pos hlt] at h3
    obtain ⟨rfl, hb3⟩ := h3
    have HL := Lib.hid hlt
    have HB3 := Lib.hid (HB2.out.trans (hb3.mono HB2.out.size))
    clear hlt hb3
    go_wp2
    rw [HP.out]
    exact FG.none (fg4 HN.out h4 h6 (by rw [HHD.out]; exact hsh) HZ1.out HZ2.out (by rw [HHD.out]; exact HL.out)) HB3.out
  · rw [if_neg hlt] at h3
    obtain ⟨v, rfl, ho3, hb3⟩ := h3
    have HO3 := Lib.hid ho3
    have hf := fg5 HN.out h4 h6 (by rw [HHD.out]; exact hsh) HZ1.out HZ2.out (by rw [HHD.out]; omega)
    rw [HHD.out] at hf
    have HF := Lib.hid hf
    have HB3 := Lib.hid (HB2.out.trans (hb3.mono HB2.out.size))
    have HBW := Lib.hid HB2.out.size
    clear hlt hb3 ho3 hf
    go_wp2
    rw [HP.out]
    refine ⟨v, by rw [HF.out]; rfl, ?_, HB3.out⟩
    rw [HF.out]
    show World.ownsRow w3 w.heap.size _ 1 v (cutB s hd (szs s.data.toList n)).length _
    rw [cutB_length]
    exact ⟨HO3.out.1, HO3.out.2.imp (fun x => x) (fun ⟨g, cap, cur, hv, hg, r⟩ => ⟨g, cap, cur, hv, Nat.le_trans HBW.out hg, r⟩)⟩
end Go.Proofs.YtfiiopchfmcjdabDoor
