/- Texts of the proof of the law FnExactRecordChoice, side by side: part 11. -/
import Derived.Maps.AppendAt
import Derived.Test.YtfiiopchfmcjdabDoorMExactRecordChoice00
import Derived.Test.YtfiiopchfmcjdabDoorMExactRecordChoice01
import Derived.Test.YtfiiopchfmcjdabDoorMExactRecordChoice02
import Derived.Test.YtfiiopchfmcjdabDoorMExactRecordChoice03
import Derived.Test.YtfiiopchfmcjdabDoorMExactRecordChoice04
import Derived.Test.YtfiiopchfmcjdabDoorMExactRecordChoice05
import Derived.Test.YtfiiopchfmcjdabDoorMExactRecordChoice06
import Derived.Test.YtfiiopchfmcjdabDoorMExactRecordChoice07
import Derived.Test.YtfiiopchfmcjdabDoorMExactRecordChoice08
import Derived.Test.YtfiiopchfmcjdabDoorMExactRecordChoice09
import Derived.Test.YtfiiopchfmcjdabDoorMExactRecordChoice10
/- the specification's l1Ok, l1Size, l1Get and Get: what they answer. -/
namespace Go.Proofs.YtfiiopchfmcjdabDoor
open Go.RowKit

set_option maxHeartbeats 400000 in
theorem l1Get_any (s : ByteArray) (at_ size : Int) (w : World) (hs : s.size ≤ maxLen) (h0 : 0 ≤ at_) (ha : at_ ≤ 1152921504606846976) (h1 : 0 ≤ size) (h2 : size ≤ 8) :
    Calls Tryd.prog 59 #[.string s, .int .i64 at_, .int .i64 size] w fun e w' => e = .returned (.int .i64 (wrap64 (leN s.data.toList at_.toNat size.toNat : Nat))) ∧ w = w' := by
  unfold maxLen at hs
  obtain ⟨a, rfl⟩ := Int.eq_ofNat_of_zero_le h0
  obtain ⟨z, rfl⟩ := Int.eq_ofNat_of_zero_le h1
  go_enter Tryd.func59, Tryd.ntmps59
  go_wp2
  go_loop [7, 8, 9] (fun n i _ => ∃ k : Nat, k ≤ z ∧ i = .int .i64 ((z : Int) - 1 - k) ∧ n = .int .i64 (wrap64 (leN s.data.toList (a + z - k) k : Nat))) (fun _ i _ => (intOf i + 1).toNat)
  case atStart => exact ⟨0, by omega, by simp, by simp [leN, wrap64]⟩
  case round =>
    obtain ⟨k, hk, rfl, rfl⟩ := hrel
    by_cases hlt : k < z
    · by_cases hin : a + z - 1 - k < s.size
      · go_wp2
        go_round
        case rel => exact ⟨k + 1, by omega, by go_num, by rw [get_round s a z k hlt (by omega) (by omega)]⟩
        case measure => simp [intOf]; omega
      · go_wp2
        go_round
        case rel => exact ⟨k + 1, by omega, by go_num, by rw [get_round_out s a z k hlt (by omega) hin]⟩
        case measure => simp [intOf]; omega
    · go_wp2
      go_ret
      refine ⟨ret_int ?_, rfl⟩
      obtain rfl : k = z := by omega
      simp
end Go.Proofs.YtfiiopchfmcjdabDoor

/- The specification's l1Size and l1Fits. -/
namespace Go.Proofs.YtfiiopchfmcjdabDoor
open Go.RowKit
def sizeB (n : Int) : Bool := decide (n = 1 ∨ n = 2 ∨ n = 4 ∨ n = 8)
set_option maxHeartbeats 400000 in
theorem l1Size_any (n : Int) (w : World) :
    Calls Tryd.prog 69 #[.int .i64 n] w fun e w' => e = .returned (.bool (sizeB n)) ∧ w = w' := by
  by_cases hz : n = 1 ∨ n = 2 ∨ n = 4 ∨ n = 8
  · rcases hz with rfl | rfl | rfl | rfl
    all_goals
      go_enter Tryd.func69, Tryd.ntmps69
      go_wp2
      go_ret
      exact ⟨ret_bool (by decide), rfl⟩
  · have b1 : (n == 1) = false := by simp; omega
    have b2 : (n == 2) = false := by simp; omega
    have b3 : (n == 4) = false := by simp; omega
    have b4 : (n == 8) = false := by simp; omega
    go_enter Tryd.func69, Tryd.ntmps69
    go_wp2
    go_ret
    refine ⟨ret_bool ?_, rfl⟩
    simp only [sizeB, hz, decide_false]

set_option maxHeartbeats 400000 in
theorem l1Fits_any (n size : Int) (w : World) (hz : size = 1 ∨ size = 2 ∨ size = 4 ∨ size = 8) :
    Calls Tryd.prog 70 #[.int .i64 n, .int .i64 size] w fun e w' => e = .returned (.bool (fitsB n size)) ∧ w = w' := by
  rcases hz with rfl | rfl | rfl | rfl
  all_goals
    go_enter Tryd.func70, Tryd.ntmps70
    go_wp2_with (first | (go_at_call 66; refine (l1In_any _ _ _ _).mono ?_; rintro e w' ⟨rfl, rfl⟩))
    go_ret
    refine ⟨ret_bool ?_, rfl⟩
    rw [Bool.eq_iff_iff]; simp [fitsB, inB]; try omega

end Go.Proofs.YtfiiopchfmcjdabDoor

/- the specification's l1Ok, l1Size, l1Get and Get: what they answer. -/
namespace Go.Proofs.YtfiiopchfmcjdabDoor
open Go.RowKit

theorem placeB_eq (at_ size : Int) : placeB at_ size = (sizeB size && (inB at_ 0 1600 && decide (at_ % size = 0))) := by
  rw [Bool.eq_iff_iff]; simp [placeB, sizeB, inB, and_assoc, and_comm, and_left_comm]

end Go.Proofs.YtfiiopchfmcjdabDoor

/- impl's word.put: the word with a number in the size bytes from at on (at and size within the word, the number of 64 bits). -/
namespace Go.Proofs.YtfiiopchfmcjdabDoor
open Go.RowKit

set_option maxHeartbeats 1000000 in
theorem put_any (l : List UInt8) (at_ size n : Int) (w : World) (hl : l.length = 8) (h0 : 0 ≤ at_) (h1 : 0 ≤ size) (h2 : at_ + size ≤ 8) (hn0 : 0 ≤ n) (hn1 : n < 18446744073709551616) :
    Calls Tryd.prog 160 #[.agg (wd l), .int .i64 at_, .int .i64 size, .int .u64 n] w fun e w' => e = .returned (.agg (wd (putL l at_.toNat (leB n size.toNat)))) ∧ Below w.heap.size w w' := by
  obtain ⟨a, rfl⟩ := Int.eq_ofNat_of_zero_le h0
  obtain ⟨z, rfl⟩ := Int.eq_ofNat_of_zero_le h1
  have HL := Lib.hid hl
  clear hl
  go_enter Tryd.func160, Tryd.ntmps160
  go_wp2
  go_loopw [3, 9] (fun m i wr => ∃ k : Nat, k ≤ z ∧ i = .int .i64 ((a : Int) + k) ∧ m = .int .u64 (shr8 n k) ∧ Hid (wr.heap[w.heap.size]? = some (.cells (wd (putL l a (leB n k))) 136 (0, 0))) ∧ Hid (wr.heap[w.heap.size + 1]? = some (.cells #[.int .u8 0, .int .u8 0, .int .u8 0, .int .u8 0, .int .u8 0, .int .u8 0, .int .u8 0, .int .u8 0] 136 (0, 0))) ∧ Hid (Below w.heap.size w wr)) (fun _ i _ => (a + z - intOf i).toNat)
  case atStart =>
    refine ⟨0, by omega, by simp, rfl, ?_, ?_, ?_⟩
    · rw [leB, putL_nil]; exact heap_alloc2_old w _ _
    · exact heap_alloc2_new w _ _
    · exact ((Below.refl _ _).alloc (Nat.le_refl _) _).alloc (by simp) _
  case round =>
    obtain ⟨k, hk, rfl, rfl, HW, HZ, HB⟩ := hrel
    have hbd := shr8_bd n k hn0 hn1
    obtain ⟨hb0, hb1⟩ := hbd
    by_cases hlt : k < z
    · have hcell := wd_cell_row HW.out (a + k) (by rw [putL_length _ _ _ (by rw [leB_length, HL.out]; omega), HL.out]; omega)
      have hfr := frozen_row HW.out (a + k)
      go_wp2
      go_roundw
      case rel =>
        exact ⟨k + 1, by omega, by go_num, rfl, put_step l a n k (by rw [HL.out]; omega) HW.out, heap_set_far _ (by omega) HZ.out, HB.out.setCell (Nat.le_refl _) _⟩
      case measure => simp [intOf]; omega
    · obtain rfl : k = z := by omega
      have hpl : (putL l a (leB n k)).length = 8 := by rw [putL_length _ _ _ (by rw [leB_length, HL.out]; omega), HL.out]
      have HP := Lib.hid hpl
      clear hpl
      go_wp2_with (first | (refine wpList_load_wd rfl 136 (.tmp 4) rfl w.heap.size rfl 136 _ _ HW.out Tryd.underlying136 rfl (by rw [HP.out]; exact size46) ?_) | (refine wpList_store_wd rfl 136 (.tmp 8) (.tmp 24) rfl (w.heap.size + 1) _ rfl rfl 136 _ HZ.out (by rw [HP.out]; exact size46) (by rw [HP.out]; rfl) ?_; intro w5 hg5 hb5))
      refine bodyPost_ret (v := .agg (wd (putL l a (leB n k)))) ?_ rfl ⟨by simp, HB.out.grown hb5.out (by have := HB.out.size; omega) (fun k e => by cases e; simp)⟩
      exact results_cell_row rfl _ _ (w.heap.size + 1) 136 _ (0, 0) _ rfl hg5.out Tryd.underlying136 rfl (by rw [wd_size, HP.out]; exact size46)

end Go.Proofs.YtfiiopchfmcjdabDoor

/- impl's word.text: the bytes of a word. -/
namespace Go.Proofs.YtfiiopchfmcjdabDoor
open Go.RowKit

set_option maxHeartbeats 400000 in
theorem text_any (l : List UInt8) (w : World) (hl : l.length = 8) :
    Calls Tryd.prog 170 #[.agg (wd l)] w fun e w' => e = .returned (.string ⟨l.toArray⟩) ∧ Below w.heap.size w w' := by
  have hrow := heap_alloc_new w (.cells (wd l) 136)
  have hcv : (convert 22 9 (.slice (some ⟨w.heap.size, 0, none⟩) 8 8)).run Tryd.prog (w.alloc (.cells (wd l) 136)) = .ok (.string ⟨l.toArray⟩) (w.alloc (.cells (wd l) 136)) := by
    exact convert_wd _ _ _ _ _ _ 8 l hl Tryd.underlying22 Tryd.underlying5 Tryd.underlying9 hrow (by rw [List.take_of_length_le (by simp [wd, Lib.byteCells_length, hl])]; simp [wd])
  have HL := Lib.hid hl
  clear hl hrow
  go_enter Tryd.func170, Tryd.ntmps170
  go_wp2
  go_ret
  exact ⟨rfl, (Below.refl _ _).alloc (Nat.le_refl _) _⟩
theorem text_lit (b0 b1 b2 b3 b4 b5 b6 b7 : UInt8) (w : World) :
    Calls Tryd.prog 170 #[.agg #[.int .u8 b0.toNat, .int .u8 b1.toNat, .int .u8 b2.toNat, .int .u8 b3.toNat, .int .u8 b4.toNat, .int .u8 b5.toNat, .int .u8 b6.toNat, .int .u8 b7.toNat]] w fun e w' =>
      e = .returned (.string ⟨#[b0, b1, b2, b3, b4, b5, b6, b7]⟩) ∧ Below w.heap.size w w' := text_any [b0, b1, b2, b3, b4, b5, b6, b7] w rfl
end Go.Proofs.YtfiiopchfmcjdabDoor

/- impl's word.text and withWord: the bytes of a word; words with another one at a place which is there. -/
namespace Go.Proofs.YtfiiopchfmcjdabDoor
open Go.RowKit

theorem ba_append (a b : ByteArray) : (a ++ b).data.toList = a.data.toList ++ b.data.toList := by simp
theorem put_string (s : ByteArray) (a : Nat) (l : List UInt8) (n : Nat) (hn : l.length = n) (h : a + n ≤ s.size) :
    s.extract 0 a ++ ⟨l.toArray⟩ ++ s.extract (a + n) s.size = ⟨(putL s.data.toList a l).toArray⟩ := by
  subst hn
  apply ext_ba
  rw [ba_append, ba_append, Lib.extract_data, Lib.extract_data]
  simp [putL, List.take_of_length_le]

theorem add_size (s : ByteArray) (a b : Nat) (h : a ≤ b) (hb : b ≤ s.size) : (s.extract a b).size = b - a := by simp; omega

set_option maxHeartbeats 1000000 in
theorem withWord_any (s : ByteArray) (i : Int) (l : List UInt8) (w : World) (hs : s.size ≤ maxLen) (h0 : 0 ≤ i) (hi : 8 * i + 8 ≤ s.size) (hl : l.length = 8) :
    Calls Tryd.prog 158 #[.string s, .int .i64 i, .agg (wd l)] w fun e w' => e = .returned (.string ⟨(putL s.data.toList (8 * i.toNat) l).toArray⟩) ∧ Below w.heap.size w w' := by
  obtain ⟨i, rfl⟩ := Int.eq_ofNat_of_zero_le h0
  unfold maxLen at hs
  obtain ⟨b0, b1, b2, b3, b4, b5, b6, b7, rfl⟩ := len8 hl
  have hfin := put_string s (8 * (i : Int).toNat) [b0, b1, b2, b3, b4, b5, b6, b7] 8 rfl (by omega)
  rw [← hfin, wd8, show 8 * (i : Int).toNat = i * 8 by omega]
  clear hfin hl
  have e1 : IntKind.i64.wrap ((i : Int) * 8) = (i : Int) * 8 := by rw [IntKind.wrap_i64]; omega
  have e2 : (0 : Int) ≤ (i : Int) * 8 := by omega
  have e3 : (i : Int) * 8 ≤ (s.size : Int) := by omega
  have e4 : ((i : Int) * 8).toNat = i * 8 := by omega
  have e5 : IntKind.i64.wrap ((i : Int) * 8 + 8) = (i : Int) * 8 + 8 := by rw [IntKind.wrap_i64]; omega
  have e6 : (0 : Int) ≤ (i : Int) * 8 + 8 := by omega
  have e7 : (i : Int) * 8 + 8 ≤ (s.size : Int) := by omega
  have e8 : ((i : Int) * 8 + 8).toNat = i * 8 + 8 := by omega
  have em : min (i * 8) s.size = i * 8 := by omega
  have f1 : ¬ 9223372036854775807 < i * 8 + 8 := by omega
  have f2 : ¬ 9223372036854775807 < i * 8 + 8 + (s.size - (i * 8 + 8)) := by omega
  go_enter Tryd.func158, Tryd.ntmps158
  go_wp2
  go_region_law (first | (go_simp; go_at_call 170; refine (text_lit _ _ _ _ _ _ _ _ _).mono ?_; rintro e w5 ⟨rfl, hb5⟩))
  all_goals
    clear e1 e2 e3 e4 e5 e6 e7 e8 em f1 f2
    have hB : Hid (Below w.heap.size w w5) := ((Below.refl w.heap.size w).alloc (Nat.le_refl _) _).drew.trans (hb5.mono (by simp))
    clear hb5
    go_wp2
    go_ret
    exact ⟨rfl, hB.out⟩
end Go.Proofs.YtfiiopchfmcjdabDoor

/- The specification's l1Bytes: a number as so many bytes, the lowest first. -/
namespace Go.Proofs.YtfiiopchfmcjdabDoor
open Go.RowKit

theorem info5 : (Tryd.prog.info? 5).map (fun i => (i.zero, i.size, i.bytes)) = some (some (.int .u8 0), 1, 1) := by kernel_rfl
set_option maxHeartbeats 400000 in
theorem l1Bytes_any (n size : Int) (w : World) (h0 : 0 ≤ size) (h1 : size ≤ 1000000) :
    Calls Tryd.prog 57 #[.int .i64 n, .int .i64 size] w fun e w' => e = .returned (.string ⟨(leB n size.toNat).toArray⟩) ∧ Below w.heap.size w w' := by
  obtain ⟨z, rfl⟩ := Int.eq_ofNat_of_zero_le h0
  obtain ⟨i0, hi, hz0, hz1, hz2⟩ := info_parts info5
  go_enter Tryd.func57, Tryd.ntmps57
  go_wp2
  go_loopw [0, 5, 6] (fun m v i wr => ∃ k : Nat, k ≤ z ∧ i = .int .i64 k ∧ m = .int .i64 (shr8 n k) ∧ Hid (wr.ownsRow w.heap.size 5 1 v k (Lib.byteCells (leB n k))) ∧ Hid (Below w.heap.size w wr)) (fun _ _ i _ => (z - intOf i).toNat)
  case atStart => exact ⟨0, by omega, rfl, rfl, World.ownsRow_made w #[] 0 (Nat.le_refl _) (by decide) rfl, (Below.refl _ _).alloc (Nat.le_refl _) _⟩
  case round =>
    obtain ⟨k, hk, rfl, rfl, hown, HB⟩ := hrel
    by_cases hlt : k < z
    · have hb : Hid (∀ b : Int, b = ((UInt8.ofNat (shr8 n k % 256).toNat).toNat : Int) → Lib.byteCells (leB n k) ++ [.int .u8 b] = Lib.byteCells (leB n (k + 1))) := fun b hb => by rw [hb, byteCells_snoc', ← leB_snoc]
      go_wp2_with (at_builtin; go_must (refine wpList_append_own _ rfl (.tmp 13) (.tmp 16) 22 rfl w.heap.size 5 i0 (.int .u8 0) 1 1 Tryd.underlying22 hi hz0 hz1 hz2 rfl (by decide) u5 _ _ rfl (hown.out.alloc _) ⟨wr.heap.size, 0, none⟩ 1 1 [_] rfl rfl (cell_one_new _ _ _) (by simp [Value.oneCell']) (by unfold maxLen; omega) (by omega) (by have := HB.out.size; simp; omega) ?_); intro v' w1 hown' hgrow _)
      have hrel' : w1.ownsRow w.heap.size 5 1 v' (k + 1) (Lib.byteCells (leB n (k + 1))) := by rw [← hb.out _ (ofNat_toNat_u8 _).symm]; exact hown'
      have hB' : Below w.heap.size w w1 := below_append HB.out HB.out.size hown.out hgrow
      go_roundw
      case rel => exact ⟨k + 1, by omega, by go_num, rfl, hrel', hB'⟩
      case measure => simp [intOf]; omega
    · obtain rfl : k = z := by omega
      have hcv := convert_own (P := Tryd.prog) wr 22 9 5 w.heap.size k (leB n k) u5 (leB_length n k) Tryd.underlying22 Tryd.underlying5 Tryd.underlying9 hown.out
      go_wp2
      go_ret
      exact ⟨by simp, HB.out⟩

end Go.Proofs.YtfiiopchfmcjdabDoor

/- impl.Put and spec.Put answer the same: words with a number put in, at every argument. -/
namespace Go.Proofs.YtfiiopchfmcjdabDoor
open Go.RowKit

/-- a number of k bytes is told by its lowest 8 k bits. -/
theorem leB_mod (n m : Int) : ∀ (k : Nat) (c : Int), n = m + c * 256 ^ k → leB n k = leB m k
  | 0, _, _ => rfl
  | k + 1, c, h => by
    have e : n = m + 256 * (c * 256 ^ k) := by rw [h, Int.pow_succ, Int.mul_comm (256 ^ k) 256, ← Int.mul_assoc, Int.mul_comm c 256, Int.mul_assoc]
    rw [leB, leB, leB_mod (n / 256) (m / 256) k c (by omega), show n % 256 = m % 256 by omega]
theorem leB_u64 (n : Int) (k : Nat) (hk : k ≤ 8) : leB (IntKind.u64.wrap n) k = leB n k := by
  rw [IntKind.wrap_u64]
  obtain ⟨j, hj⟩ : ∃ j, 8 = k + j := ⟨8 - k, by omega⟩
  refine (leB_mod n _ k (n / 18446744073709551616 * 256 ^ j) ?_).symm
  have h8 : (18446744073709551616 : Int) = 256 ^ j * 256 ^ k := by
    rw [← Int.pow_add, show j + k = 8 by omega]; rfl
  rw [Int.mul_assoc, ← h8]
  omega
/-- bytes put within one word of words. -/
theorem putL_word (l : List UInt8) (q r : Nat) (xs : List UInt8) (h1 : r + xs.length ≤ 8) (h2 : 8 * q + 8 ≤ l.length) :
    putL l (8 * q) (putL ((l.drop (8 * q)).take 8) r xs) = putL l (8 * q + r) xs := by
  have hl : ((l.drop (8 * q)).take 8).length = 8 := by simp; omega
  have hp : (putL ((l.drop (8 * q)).take 8) r xs).length = 8 := by rw [putL_length _ _ _ (by omega), hl]
  rw [putL, hp, putL, putL]
  have e1 : l.take (8 * q) ++ ((l.drop (8 * q)).take 8).take r = l.take (8 * q + r) := by
    rw [List.take_take, Nat.min_eq_left (by omega), ← List.take_add]
  have e2 : ((l.drop (8 * q)).take 8).drop (r + xs.length) ++ l.drop (8 * q + 8) = l.drop (8 * q + r + xs.length) := by
    have h := List.take_append_drop (8 - (r + xs.length)) (l.drop (8 * q + r + xs.length))
    rw [List.drop_drop, show 8 * q + r + xs.length + (8 - (r + xs.length)) = 8 * q + 8 by omega] at h
    rw [List.drop_take, List.drop_drop, show 8 * q + (r + xs.length) = 8 * q + r + xs.length by omega]
    exact h
  simp only [← List.append_assoc]
  rw [e1]
  simp only [List.append_assoc]
  rw [e2]

/-- Put may put. -/
def putOk (l : List UInt8) (at_ size n : Int) : Bool := placeB at_ size && (decide (at_ < l.length) && fitsB n size)
/-- what Put answers: the text. -/
def putT (l : List UInt8) (at_ size n : Int) : List UInt8 := if wordsB l.length = true then (if putOk l at_ size n = true then putL l at_.toNat (leB n size.toNat) else l) else []
/-- what Put answers: whether. -/
def putB (l : List UInt8) (at_ size n : Int) : Bool := wordsB l.length && putOk l at_ size n
theorem ba_eta (s : ByteArray) : (⟨s.data.toList.toArray⟩ : ByteArray) = s := by cases s; simp

set_option maxHeartbeats 1000000 in
theorem implPut_any (s : ByteArray) (at_ size n : Int) (w : World) (hs : s.size ≤ maxLen) (hn : -9223372036854775808 ≤ n ∧ n ≤ 9223372036854775807) :
    Calls Tryd.prog 137 #[.string s, .int .i64 at_, .int .i64 size, .int .i64 n] w fun e w' =>
      e = .returned (.tuple #[.string ⟨(putT s.data.toList at_ size n).toArray⟩, .bool (putB s.data.toList at_ size n)]) ∧ Below w.heap.size w w' := by
  have hsl : s.data.toList.length = s.size := by simp
  cases hw : wordsB s.size
  · have hT : putT s.data.toList at_ size n = [] := by rw [putT, hsl, hw, if_neg (by simp)]
    have hB : putB s.data.toList at_ size n = false := by rw [putB, hsl, hw, Bool.false_and]
    rw [hT, hB]
    clear hT hB hsl
    go_enter Tryd.func137, Tryd.ntmps137
    go_wp2_with (first | (go_at_call 37; refine (isWords_any _ _ hs).mono ?_; rintro e w' ⟨rfl, rfl⟩))
    go_ret2
    exact ⟨rfl, Below.refl _ _⟩
  have hno : putOk s.data.toList at_ size n = false → putT s.data.toList at_ size n = s.data.toList ∧ putB s.data.toList at_ size n = false := fun h => by
    rw [putT, putB, hsl, hw, h, if_pos rfl, if_neg (by simp)]; exact ⟨rfl, rfl⟩
  cases hp : placeB at_ size
  · obtain ⟨hT, hB⟩ := hno (by rw [putOk, hp, Bool.false_and])
    rw [hT, hB, ba_eta]
    clear hT hB hno hsl
    go_enter Tryd.func137, Tryd.ntmps137
    go_wp2_with (first | (go_at_call 37; refine (isWords_any _ _ hs).mono ?_; rintro e w' ⟨rfl, rfl⟩) | (go_at_call 159; refine (isPlace_any _ _ _).mono ?_; rintro e w' ⟨rfl, rfl⟩))
    go_ret2
    exact ⟨rfl, Below.refl _ _⟩
  have hp' : 0 ≤ at_ ∧ at_ ≤ 1600 ∧ ((size = 1 ∨ size = 2 ∨ size = 4 ∨ size = 8) ∧ at_ % size = 0) := by simpa [placeB] using hp
  obtain ⟨ha0, ha1, hz, hm⟩ := hp'
  have hw8 : s.size % 8 = 0 ∧ s.size ≤ 1600 := by simpa [wordsB] using hw
  obtain ⟨hw1, hw2⟩ := hw8
  obtain ⟨a, rfl⟩ := Int.eq_ofNat_of_zero_le ha0
  by_cases hin : a < s.size
  · cases hf : fitsB n size
    · obtain ⟨hT, hB⟩ := hno (by rw [putOk, hf, Bool.and_false, Bool.and_false])
      rw [hT, hB, ba_eta]
      clear hT hB hno hsl hm
      go_enter Tryd.func137, Tryd.ntmps137
      go_wp2_with (first | (go_at_call 37; refine (isWords_any _ _ hs).mono ?_; rintro e w' ⟨rfl, rfl⟩) | (go_at_call 159; refine (isPlace_any _ _ _).mono ?_; rintro e w' ⟨rfl, rfl⟩) | (go_at_call 89; refine (fitsBytes_any _ _ _ hz hn).mono ?_; rintro e w' ⟨rfl, rfl⟩))
      go_ret2
      exact ⟨rfl, Below.refl _ _⟩
    · have hok : putOk s.data.toList a size n = true := by rw [putOk, hp, hf, hsl]; simpa using hin
      have hT : putT s.data.toList a size n = putL s.data.toList a (leB n size.toNat) := by rw [putT, hsl, hw, hok, if_pos rfl, if_pos rfl]; rfl
      have hB : putB s.data.toList a size n = true := by rw [putB, hsl, hw, hok]; rfl
      have hlen : ((s.data.toList.drop (8 * (a / 8))).take 8).length = 8 := by simp; omega
      have hsum : (a % 8 : Nat) + size ≤ 8 := by rcases hz with rfl | rfl | rfl | rfl <;> omega
      have hz0 : 0 ≤ size := by omega
      have hN := putL_word s.data.toList (a / 8) (a % 8) (leB n size.toNat) (by rw [leB_length]; omega) (by rw [hsl]; omega)
      rw [show 8 * (a / 8) + a % 8 = a by omega, ← leB_u64 n size.toNat (by omega)] at hN
      rw [hT, hB, ← leB_u64 n size.toNat (by omega), ← hN]
      have hpl : (putL ((s.data.toList.drop (8 * (a / 8))).take 8) (a % 8) (leB (IntKind.u64.wrap n) size.toNat)).length = 8 := by rw [putL_length _ _ _ (by rw [leB_length]; omega), hlen]
      have HL := Lib.hid hlen
      have HP := Lib.hid hpl
      have HM := Lib.hid hm
      have hm0 : 0 ≤ IntKind.u64.wrap n := wrap_u64_nonneg n
      have hm1 : IntKind.u64.wrap n < 18446744073709551616 := by rw [IntKind.wrap_u64]; omega
      clear hN hT hB hlen hsl hm hok hno hpl
      go_enter Tryd.func137, Tryd.ntmps137
      go_wp2_with (first | (go_at_call 37; refine (isWords_any _ _ hs).mono ?_; rintro e w' ⟨rfl, rfl⟩) | (go_at_call 159; refine (isPlace_any _ _ _).mono ?_; rintro e w' ⟨rfl, rfl⟩) | (go_at_call 89; refine (fitsBytes_any _ _ _ hz hn).mono ?_; rintro e w' ⟨rfl, rfl⟩) | (go_at_call 155; go_must (refine (wordAt_any s _ _ hs (by omega) (by omega)).mono ?_); rintro e w1 ⟨rfl, hb1⟩) | (go_at_call 160; go_must (refine (put_any _ _ _ _ _ (by exact HL.out) (by omega) (by omega) (by omega) (by omega) (by omega)).mono ?_); rintro e w2 ⟨rfl, hb2⟩) | (refine wpList_store_wd rfl 136 (.tmp 10) (.tmp 40) rfl w2.heap.size (putL ((s.data.toList.drop (8 * (a / 8))).take 8) (a % 8) (leB (IntKind.u64.wrap n) size.toNat)) rfl rfl 136 _ (heap_alloc_new w2 _) (by rw [HP.out]; exact size46) (by rw [HP.out]; rfl) ?_; intro w3 hg3 hb3) | (refine wpList_load_wd rfl 136 (.tmp 10) rfl w2.heap.size rfl 136 _ _ hg3.out Tryd.underlying136 rfl (by rw [HP.out]; exact size46) ?_) | (go_at_call 158; go_must (refine (withWord_any s _ _ _ hs (by omega) (by omega) HP.out).mono ?_); rintro e w4 ⟨rfl, hb4⟩))
      go_ret2
      refine ⟨rfl, ?_⟩
      have hB2 : Below w.heap.size w w2 := hb1.trans (hb2.mono hb1.size)
      exact ((hB2.alloc hB2.size _).grown hb3.out (by have := hB2.size; simp; omega) (fun k e => by cases e; exact hB2.size)).trans (hb4.mono (by have := hB2.size; have := hb3.out.size; simp at this; omega))
  · obtain ⟨hT, hB⟩ := hno (by rw [putOk, hsl]; simp; intros; omega)
    rw [hT, hB, ba_eta]
    clear hT hB hno hsl hm
    go_enter Tryd.func137, Tryd.ntmps137
    go_wp2_with (first | (go_at_call 37; refine (isWords_any _ _ hs).mono ?_; rintro e w' ⟨rfl, rfl⟩) | (go_at_call 159; refine (isPlace_any _ _ _).mono ?_; rintro e w' ⟨rfl, rfl⟩))
    go_ret2
    exact ⟨rfl, Below.refl _ _⟩

theorem inB_01 (n : Int) : inB n 0 1 = decide (n = 0 ∨ n = 1) := by rw [Bool.eq_iff_iff]; simp [inB]; omega
end Go.Proofs.YtfiiopchfmcjdabDoor

/- Plain facts: a number that was put into bytes is got from them, and put back. No Go text. No condition beyond each theorem's own. -/
namespace Go.Proofs.YtfiiopchfmcjdabDoor
open Go.RowKit
theorem leN_congr (l m : List UInt8) : ∀ (k a b : Nat), (∀ i, i < k → l[a + i]? = m[b + i]?) → leN l a k = leN m b k
  | 0, _, _, _ => rfl
  | k + 1, a, b, h => by
    have h0 := h 0 (by omega)
    simp only [Nat.add_zero] at h0
    have h1 := leN_congr l m k (a + 1) (b + 1) (fun i hi => by
      have := h (i + 1) (by omega)
      rwa [show a + (i + 1) = a + 1 + i by omega, show b + (i + 1) = b + 1 + i by omega] at this)
    rw [leN, leN, h0, h1]
theorem putL_in (l : List UInt8) (a : Nat) (xs : List UInt8) (h : a + xs.length ≤ l.length) (i : Nat) (hi : i < xs.length) : (putL l a xs)[a + i]? = xs[i]? := by
  have e1 : (l.take a).length = a := by simp; omega
  rw [putL, List.getElem?_append_right (by omega), e1, Nat.add_sub_cancel_left, List.getElem?_append_left hi]
theorem putL_out (l : List UInt8) (a : Nat) (xs : List UInt8) (h : a + xs.length ≤ l.length) (j : Nat) (hj : j < a ∨ a + xs.length ≤ j) : (putL l a xs)[j]? = l[j]? := by
  have e1 : (l.take a).length = a := by simp; omega
  rcases hj with hj | hj
  · rw [putL, List.getElem?_append_left (by omega), List.getElem?_take_of_lt hj]
  · rw [putL, List.getElem?_append_right (by omega), e1, List.getElem?_append_right (by omega), List.getElem?_drop]
    congr 1; omega
theorem putL_back (l : List UInt8) (a : Nat) (xs : List UInt8) (h : a + xs.length ≤ l.length) : putL (putL l a xs) a ((l.drop a).take xs.length) = l := by
  have hlen : ((l.drop a).take xs.length).length = xs.length := by simp; omega
  have hp := putL_length l a xs h
  apply List.ext_getElem?
  intro j
  by_cases hj : j < a ∨ a + xs.length ≤ j
  · rw [putL_out _ a _ (by omega) j (by omega), putL_out l a xs h j hj]
  · obtain ⟨i, rfl⟩ : ∃ i, j = a + i := ⟨j - a, by omega⟩
    rw [putL_in _ a _ (by omega) i (by omega), List.getElem?_take_of_lt (by omega), List.getElem?_drop]
theorem emod_256 (n m : Int) : n % (256 * m) = n % 256 + 256 * (n / 256 % m) := by
  rw [Int.emod_def n (256 * m), Int.emod_def (n / 256) m, ← Int.ediv_ediv_of_nonneg (by decide), Int.mul_assoc]
  omega
theorem leN_leB : ∀ (k : Nat) (n : Int), ((leN (leB n k) 0 k : Nat) : Int) = n % 256 ^ k
  | 0, n => by simp [leN, Int.emod_one]
  | k + 1, n => by
    have ih := leN_leB k (n / 256)
    have e : leN (leB n (k + 1)) 1 k = leN (leB (n / 256) k) 0 k := leN_congr _ _ k 1 0 (fun i _ => by rw [leB, Nat.add_comm, List.getElem?_cons_succ, Nat.zero_add])
    rw [leN, Nat.zero_add, e, leB, List.getElem?_cons_zero]
    simp only [Option.getD_some]
    rw [Int.natCast_add, Int.natCast_mul, ih, ofNat_toNat_u8, Int.pow_succ, Int.mul_comm (256 ^ k) 256, emod_256]
    rfl
theorem leN_putL (l : List UInt8) (a : Nat) (n : Int) (k : Nat) (h : a + k ≤ l.length) : ((leN (putL l a (leB n k)) a k : Nat) : Int) = n % 256 ^ k := by
  rw [← leN_leB k n, leN_congr (putL l a (leB n k)) (leB n k) k a 0 (fun i hi => ?_)]
  rw [putL_in l a _ (by rw [leB_length]; exact h) i (by rw [leB_length]; exact hi), Nat.zero_add]
theorem leN_putL_out (l : List UInt8) (a : Nat) (xs : List UInt8) (b k : Nat) (h : a + xs.length ≤ l.length) (hb : b + k ≤ a ∨ a + xs.length ≤ b) : leN (putL l a xs) b k = leN l b k :=
  leN_congr _ _ k b b (fun i hi => putL_out l a xs h (b + i) (by omega))
theorem leB_leN (l : List UInt8) : ∀ (k a : Nat), a + k ≤ l.length → leB ((leN l a k : Nat) : Int) k = (l.drop a).take k
  | 0, _, _ => by simp [leB]
  | k + 1, a, h => by
    have hb := byte_lt l a
    have e1 : (((l[a]?.getD 0).toNat + 256 * leN l (a + 1) k : Nat) : Int) % 256 = ((l[a]?.getD 0).toNat : Int) := by omega
    have e2 : (((l[a]?.getD 0).toNat + 256 * leN l (a + 1) k : Nat) : Int) / 256 = ((leN l (a + 1) k : Nat) : Int) := by omega
    rw [leN, leB, e1, e2, leB_leN l k (a + 1) (by omega), List.drop_eq_getElem_cons (show a < l.length by omega), List.take_succ_cons, List.getElem?_eq_getElem (by omega)]
    simp
theorem leN_2 (l : List UInt8) (a : Nat) : leN l a 2 = leN l a 1 + 256 * leN l (a + 1) 1 := by simp [leN]
theorem leN_4 (l : List UInt8) (a : Nat) : leN l a 4 = leN l a 2 + 65536 * leN l (a + 2) 2 := by simp [leN, Nat.add_assoc]; omega
end Go.Proofs.YtfiiopchfmcjdabDoor

/- What was put is got, and put back: on lists of bytes. -/
namespace Go.Proofs.YtfiiopchfmcjdabDoor
open Go.RowKit
theorem leB_wrap64 (N : Nat) (k : Nat) (hk : k ≤ 8) : leB (wrap64 (N : Int)) k = leB (N : Int) k := by
  have h : IntKind.u64.wrap (wrap64 (N : Int)) = IntKind.u64.wrap (N : Int) := by
    rw [IntKind.wrap_u64, IntKind.wrap_u64]; unfold wrap64; omega
  rw [← leB_u64 (wrap64 (N : Int)) k hk, h, leB_u64 _ k hk]
theorem putB_parts {l : List UInt8} {a z n : Int} (h : putB l a z n = true) :
    (l.length % 8 = 0 ∧ l.length ≤ 1600) ∧ placeB a z = true ∧ fitsB n z = true ∧ 0 ≤ a ∧ a.toNat + z.toNat ≤ l.length ∧ (z = 1 ∨ z = 2 ∨ z = 4 ∨ z = 8) := by
  simp only [putB, putOk, Bool.and_eq_true, decide_eq_true_eq] at h
  obtain ⟨hw, hp, hin, hf⟩ := h
  have hw8 : l.length % 8 = 0 ∧ l.length ≤ 1600 := by simpa [wordsB] using hw
  have hp' : 0 ≤ a ∧ a ≤ 1600 ∧ ((z = 1 ∨ z = 2 ∨ z = 4 ∨ z = 8) ∧ a % z = 0) := by simpa [placeB] using hp
  obtain ⟨ha0, ha1, hz, hm⟩ := hp'
  refine ⟨hw8, hp, hf, ha0, ?_, hz⟩
  rcases hz with rfl | rfl | rfl | rfl <;> omega
theorem putT_eq {l : List UInt8} {a z n : Int} (h : putB l a z n = true) : putT l a z n = putL l a.toNat (leB n z.toNat) := by
  simp only [putB, Bool.and_eq_true] at h
  rw [putT, if_pos h.1, if_pos h.2]
theorem putT_length {l : List UInt8} {a z n : Int} (h : putB l a z n = true) : (putT l a z n).length = l.length := by
  obtain ⟨_, _, _, _, hin, _⟩ := putB_parts h
  rw [putT_eq h, putL_length _ _ _ (by rw [leB_length]; exact hin)]
theorem getI_eq {l : List UInt8} {a z : Int} (hw : l.length % 8 = 0 ∧ l.length ≤ 1600) (hp : placeB a z = true) : getI l a z = wrap64 (leN l a.toNat z.toNat : Nat) := by
  rw [getI, if_pos ⟨by simpa [wordsB] using hw, hp⟩]
theorem put_got {l : List UInt8} {a z n : Int} (h : putB l a z n = true) (hn : -9223372036854775808 ≤ n ∧ n ≤ 9223372036854775807) : getI (putT l a z n) a z = n := by
  have hl := putT_length h
  obtain ⟨hw, hp, hf, ha, hin, hz⟩ := putB_parts h
  rw [getI_eq (by rw [hl]; exact hw) hp, putT_eq h, leN_putL _ _ _ _ hin]
  have hf' : z = 8 ∨ (0 ≤ n ∧ n < 256 ^ z.toNat) := by simpa [fitsB] using hf
  obtain ⟨hn0, hn1⟩ := hn
  rcases hz with rfl | rfl | rfl | rfl
  · have e : (256 : Int) ^ (1 : Int).toNat = 256 := rfl
    rw [e] at hf' ⊢
    unfold wrap64; omega
  · have e : (256 : Int) ^ (2 : Int).toNat = 65536 := rfl
    rw [e] at hf' ⊢
    unfold wrap64; omega
  · have e : (256 : Int) ^ (4 : Int).toNat = 4294967296 := rfl
    rw [e] at hf' ⊢
    unfold wrap64; omega
  · have e : (256 : Int) ^ (8 : Int).toNat = 18446744073709551616 := rfl
    rw [e]
    unfold wrap64; omega
theorem got_fits {l : List UInt8} {a z : Int} (hw : l.length % 8 = 0 ∧ l.length ≤ 1600) (hp : placeB a z = true) (hz : z = 1 ∨ z = 2 ∨ z = 4 ∨ z = 8) : fitsB (getI l a z) z = true := by
  have hlt := leN_lt l z.toNat a.toNat
  rw [getI_eq hw hp]
  rcases hz with rfl | rfl | rfl | rfl
  · have e : (256 : Nat) ^ (1 : Int).toNat = 256 := rfl
    have e2 : (256 : Int) ^ (1 : Int).toNat = 256 := rfl
    rw [e] at hlt
    generalize leN l a.toNat (1 : Int).toNat = N at hlt ⊢
    rw [wrap64_small _ (by omega), fitsB, e2]
    simp; omega
  · have e : (256 : Nat) ^ (2 : Int).toNat = 65536 := rfl
    have e2 : (256 : Int) ^ (2 : Int).toNat = 65536 := rfl
    rw [e] at hlt
    generalize leN l a.toNat (2 : Int).toNat = N at hlt ⊢
    rw [wrap64_small _ (by omega), fitsB, e2]
    simp; omega
  · have e : (256 : Nat) ^ (4 : Int).toNat = 4294967296 := rfl
    have e2 : (256 : Int) ^ (4 : Int).toNat = 4294967296 := rfl
    rw [e] at hlt
    generalize leN l a.toNat (4 : Int).toNat = N at hlt ⊢
    rw [wrap64_small _ (by omega), fitsB, e2]
    simp; omega
  · simp [fitsB]
theorem put_backB {l : List UInt8} {a z n : Int} (h : putB l a z n = true) : putB (putT l a z n) a z (getI l a z) = true := by
  have hl := putT_length h
  have h' := h
  obtain ⟨hw, hp, hf, ha, hin, hz⟩ := putB_parts h
  simp only [putB, putOk, Bool.and_eq_true, decide_eq_true_eq] at h' ⊢
  rw [hl]
  exact ⟨h'.1, h'.2.1, h'.2.2.1, got_fits hw hp hz⟩
theorem put_backT {l : List UInt8} {a z n : Int} (h : putB l a z n = true) : putT (putT l a z n) a z (getI l a z) = l := by
  obtain ⟨hw, hp, hf, ha, hin, hz⟩ := putB_parts h
  rw [putT_eq (put_backB h), putT_eq h, getI_eq hw hp, leB_wrap64 _ _ (by omega), leB_leN _ _ _ hin]
  have := putL_back l a.toNat (leB n z.toNat) (by rw [leB_length]; exact hin)
  rw [leB_length] at this
  exact this
theorem getI_bd (l : List UInt8) (a z : Int) : -9223372036854775808 ≤ getI l a z ∧ getI l a z ≤ 9223372036854775807 := by
  rw [getI]
  split
  · unfold wrap64; omega
  · omega
theorem putT_bd (l : List UInt8) (a z n : Int) (b : Nat) (h : l.length ≤ b) : (putT l a z n).length ≤ b := by
  cases hB : putB l a z n
  · rw [putT]
    split
    · rename_i h1
      rw [putB, h1, Bool.true_and] at hB
      rw [if_neg (by rw [hB]; simp)]
      exact h
    · simp
  · rw [putT_length hB]; exact h
end Go.Proofs.YtfiiopchfmcjdabDoor

/- RecordChoice: the program's. -/
namespace Go.Proofs.YtfiiopchfmcjdabDoor
open Go.RowKit
/-- which choice is there. -/
def choN (l : List Fld) (n : Nd) : Int := if recB l n then (if tagL l < 0 then -1 else wrap64 (leN n.data.data.toList (2 * tagL l).toNat 2 : Nat)) else -1
theorem rec_data {l : List Fld} {n : Nd} (h : recB l n = true) : n.data.size % 8 = 0 ∧ n.data.size ≤ 1592 ∧ fldsOk l = true := by
  unfold recB isRec at h
  simp only [Bool.and_eq_true, decide_eq_true_eq] at h
  obtain ⟨h0, hk, ho⟩ := h
  obtain ⟨h8, hw⟩ := (by unfold nodeOk at ho; rw [Bool.and_eq_true, decide_eq_true_eq] at ho; exact ho : okN 8 n = true ∧ wordsN 8 n ≤ 199)
  have hf : formN n = true := by
    cases hf : formN n with
    | true => rfl
    | false => rw [ok_form hf] at h8; cases h8
  have ho8 : ownN n ≤ wordsN 8 n := own_le_words
  have hd : (n.data.size + 7) / 8 ≤ ownN n := by unfold ownN ownB; omega
  rcases form_cases hf with hc | hc | hc
  · exact ⟨by omega, by omega, h0⟩
  · exact ⟨by omega, by omega, h0⟩
  · exact absurd hc.1 hk
theorem cho_get {l : List Fld} {n : Nd} (h : recB l n = true) (ht : ¬ tagL l < 0) : getI n.data.data.toList (tagL l * 2) 2 = choN l n := by
  obtain ⟨h8, hw, hok⟩ := rec_data h
  have hb := tagL_bd hok
  have hp : placeB (tagL l * 2) 2 = true := by simp only [placeB, decide_eq_true_eq]; exact ⟨by omega, by omega, .inr (.inl trivial), by omega⟩
  have hl : n.data.data.toList.length = n.data.size := by simp
  rw [getI_eq (by rw [hl]; omega) hp]
  unfold choN
  rw [if_pos h, if_neg ht, Int.mul_comm]
  rfl
set_option maxHeartbeats 4000000 in
set_option maxRecDepth 100000 in
theorem implRecordChoice_a (A : Option Addr) (c : Nat) (l : List Fld) (m : Nat) (n : Nd) (h : Hd) (w : World) (S : Nat → Prop) (ht : Tab w) (h1w : 4 < w.heap.size) (hl : Flds w A l) (hll : l.length ≤ 10000000) (hn : NdAt w S m n h) (htn : totN m n ≤ 2000000) :
    Calls Tryd.prog 24 #[.slice A l.length c, .agg #[.int .i64 n.kind, .string n.data, .slice h.A n.ptrs.length h.a, .int .i64 n.size, .int .i64 n.count, .slice h.B n.items.length h.b]] w fun e w' => e = .returned (.int .i64 (choN l n)) ∧ Below w.heap.size w w' := by
  have hbx := (Below.refl w.heap.size w).alloc (Nat.le_refl _) (.cells #[.int .i64 n.kind, .string n.data, .slice h.A n.ptrs.length h.a, .int .i64 n.size, .int .i64 n.count, .slice h.B n.items.length h.b] nodeT)
  have HC := Lib.hid (recordBy_a A c l m n h _ S (ht.below hbx h1w) (by simp; omega) (hl.below hbx) hll (hn.below hbx) htn)
  have hd := hn.1
  have HBX := Lib.hid hbx
  clear hn ht hl hbx
  go_enter Tryd.func24, Tryd.ntmps24
  go_wp2_with fail
  refine HC.out.mono ?_
  intro e w1 hrec
  rcases hrec with ⟨hok, v1, rfl, hown, hb1⟩ | ⟨hok, rfl, hb1⟩
  · obtain ⟨A1, cp1, rfl⟩ := own_slice2 hown
    have hb2 := (Below.refl w1.heap.size w1).alloc (Nat.le_refl _) (.cells #[.slice A l.length c, .int .i64 ((layF l ps0).2.ls.words : Int), .int .i64 ((layF l ps0).2.ptrs : Int), (.slice A1 l.length cp1), .int .i64 (tagL l), .int .i64 n.kind, .string n.data, .slice h.A n.ptrs.length h.a, .int .i64 n.size, .int .i64 n.count, .slice h.B n.items.length h.b] recT)
    have hr : RecAt (w1.alloc (.cells #[.slice A l.length c, .int .i64 ((layF l ps0).2.ls.words : Int), .int .i64 ((layF l ps0).2.ptrs : Int), (.slice A1 l.length cp1), .int .i64 (tagL l), .int .i64 n.kind, .string n.data, .slice h.A n.ptrs.length h.a, .int .i64 n.size, .int .i64 n.count, .slice h.B n.items.length h.b] recT)) w1.heap.size A l.length c l (.slice A1 l.length cp1) n h := heap_alloc_new w1 _
    obtain ⟨c0, c1, c2, c3, c4, c5, c6, c7, c8, c9, c10⟩ := cells11 hr
    have HR := Lib.hid hr
    have HB2 := Lib.hid ((HBX.out.trans (hb1.mono HBX.out.size)).trans (hb2.mono (HBX.out.trans (hb1.mono HBX.out.size)).size))
    have HOK := Lib.hid hok
    clear hb1 hb2 hown hr hok
    unfold recV
    by_cases htg : tagL l < 0
    · have HX : Hid (choN l n = -1) := Lib.hid (by unfold choN; rw [if_pos HOK.out, if_pos htg])
      go_wp2_with fail
      go_ret
      exact ⟨by rw [HX.out]; rfl, HB2.out⟩
    · have HX := Lib.hid (cho_get HOK.out htg)
      have hb := tagL_bd (rec_data HOK.out).2.2
      have h0 : 0 ≤ tagL l := by omega
      have HT := Lib.hid (told_a _ A l.length c l _ n h _ HR.out hd h0 (by omega))
      rw [HX.out] at HT
      go_wp2_with fail
      refine HT.out.mono ?_
      rintro e w3 ⟨rfl, hb3⟩
      have HB3 := Lib.hid (HB2.out.trans (hb3.mono HB2.out.size))
      clear hb3
      go_wp2
      go_ret
      exact ⟨rfl, HB3.out⟩
  · have HX : Hid (choN l n = -1) := Lib.hid (by unfold choN; rw [hok]; rfl)
    have hb2 := (Below.refl w1.heap.size w1).alloc (Nat.le_refl _) (.cells #[.slice none 0 0, .int .i64 0, .int .i64 0, .slice none 0 0, .int .i64 0, .int .i64 0, .string { data := #[] }, .slice none 0 0, .int .i64 0, .int .i64 0, .slice none 0 0] recT)
    have HB2 := Lib.hid ((HBX.out.trans (hb1.mono HBX.out.size)).trans (hb2.mono (HBX.out.trans (hb1.mono HBX.out.size)).size))
    clear hb1 hb2 hok
    unfold zero11
    go_wp2_with fail
    go_ret
    exact ⟨by rw [HX.out]; rfl, HB2.out⟩
end Go.Proofs.YtfiiopchfmcjdabDoor

/- The program's LayoutBits. -/
namespace Go.Proofs.YtfiiopchfmcjdabDoor
open Go.RowKit
def fld0 : Fld := ⟨0, false, 0⟩
def layBits (l : List Fld) (i : Int) : Int × Int :=
  if fldsOk l = true ∧ withB i l.length = true ∧ (l.getD i.toNat fld0).size ≠ 6 then
    (((layF l ps0).1.getD i.toNat 0 : Int) * bitsOf (l.getD i.toNat fld0).size, ((layF l ps0).1.getD i.toNat 0 : Int) * bitsOf (l.getD i.toNat fld0).size + bitsOf (l.getD i.toNat fld0).size)
  else (0, 0)
def BitsP (l : List Fld) (i : Int) (w : World) (e : Ending) (w' : World) : Prop :=
  e = .returned (.tuple #[.int .i64 (layBits l i).1, .int .i64 (layBits l i).2]) ∧ Below w.heap.size w w'
theorem slots_at {w : World} {B : Nat} {A : Option Addr} {cap n : Nat} {l : List Nat} (h : w.ownsRow B slotT 1 (.slice A n cap) l.length (slotCells l)) {k : Nat} (hk : k < l.length) :
    n = l.length ∧ ∃ x, A = some x ∧ w.cell? (x.add k) = some (.int .i64 ((l.getD k 0 : Nat) : Int)) := by
  rcases h.2 with ⟨e, h0⟩ | ⟨g, cap', cur, e, _, hg, _⟩
  · omega
  · injection e with e1 e2 e3
    subst e1 e2
    refine ⟨rfl, _, rfl, ?_⟩
    refine h.cells (g := g) rfl k _ ?_
    rw [slotCells, List.getElem?_map, List.getElem?_eq_getElem hk, List.getD, List.getElem?_eq_getElem hk]
    rfl
theorem bitsAll_of {z : Int} (h : z ≠ 6) : bitsAll z = bitsOf z := by unfold bitsAll; rw [if_neg h]
theorem bitsOf_bd (z : Int) : 0 ≤ bitsOf z ∧ bitsOf z ≤ 64 := by unfold bitsOf; split <;> (try split) <;> (try split) <;> (try split) <;> (try split) <;> omega
theorem mul_bd {a b : Int} (h0 : 0 ≤ a) (h1 : a ≤ 2000) (h2 : 0 ≤ b) (h3 : b ≤ 64) : 0 ≤ a * b ∧ a * b ≤ 128000 := by
  refine ⟨Int.mul_nonneg h0 h2, ?_⟩
  have := Int.mul_le_mul h1 h3 h2 (by omega : (0 : Int) ≤ 2000)
  omega
theorem getD_lt {l : List Fld} {k : Nat} (h : k < l.length) : l.getD k fld0 = l[k] := by simp [List.getD, List.getElem?_eq_getElem h]
end Go.Proofs.YtfiiopchfmcjdabDoor
