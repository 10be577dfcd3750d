/- impl's word.put: the word with a number in the size bytes from at on (at and size within the word, the number of 64 bits). -/
import Derived.Test.YtliiffpegfkpbabDoorMath2
import Derived.Test.YtliiffpegfkpbabDoorWd
namespace Go.Proofs.YtliiffpegfkpbabDoor
open Go.RowKit

set_option maxHeartbeats 1000000 in
theorem put_any (l : List UInt8) (at_ size n : Int) (w : World) (hl : l.length = 8) (h0 : 0 ≤ at_) (h1 : 0 ≤ size) (h2 : at_ + size ≤ 8) (hn0 : 0 ≤ n) (hn1 : n < 18446744073709551616) :
    Calls Tryd.prog 59 #[.agg (wd l), .int .i64 at_, .int .i64 size, .int .u64 n] w fun e w' => e = .returned (.agg (wd (putL l at_.toNat (leB n size.toNat)))) ∧ Below w.heap.size w w' := by
  obtain ⟨a, rfl⟩ := Int.eq_ofNat_of_zero_le h0
  obtain ⟨z, rfl⟩ := Int.eq_ofNat_of_zero_le h1
  have HL := Lib.hid hl
  clear hl
  go_enter Tryd.func59, Tryd.ntmps59
  go_wp2
  go_loopw [3, 9] (fun m i wr => ∃ k : Nat, k ≤ z ∧ i = .int .i64 ((a : Int) + k) ∧ m = .int .u64 (shr8 n k) ∧ Hid (wr.heap[w.heap.size]? = some (.cells (wd (putL l a (leB n k))) 78 (0, 0))) ∧ Hid (wr.heap[w.heap.size + 1]? = some (.cells #[.int .u8 0, .int .u8 0, .int .u8 0, .int .u8 0, .int .u8 0, .int .u8 0, .int .u8 0, .int .u8 0] 78 (0, 0))) ∧ Hid (Below w.heap.size w wr)) (fun _ i _ => (a + z - intOf i).toNat)
  case atStart =>
    refine ⟨0, by omega, by simp, rfl, ?_, ?_, ?_⟩
    · rw [leB, putL_nil]; exact heap_alloc2_old w _ _
    · exact heap_alloc2_new w _ _
    · exact ((Below.refl _ _).alloc (Nat.le_refl _) _).alloc (by simp) _
  case round =>
    obtain ⟨k, hk, rfl, rfl, HW, HZ, HB⟩ := hrel
    have hbd := shr8_bd n k hn0 hn1
    obtain ⟨hb0, hb1⟩ := hbd
    by_cases hlt : k < z
    · have hcell := wd_cell_row HW.out (a + k) (by rw [putL_length _ _ _ (by rw [leB_length, HL.out]; omega), HL.out]; omega)
      have hfr := frozen_row HW.out (a + k)
      go_wp2
      go_roundw
      case rel =>
        exact ⟨k + 1, by omega, by go_num, rfl, put_step l a n k (by rw [HL.out]; omega) HW.out, heap_set_far _ (by omega) HZ.out, HB.out.setCell (Nat.le_refl _) _⟩
      case measure => simp [intOf]; omega
    · obtain rfl : k = z := by omega
      have hpl : (putL l a (leB n k)).length = 8 := by rw [putL_length _ _ _ (by rw [leB_length, HL.out]; omega), HL.out]
      have HP := Lib.hid hpl
      clear hpl
      go_wp2_with (first | (refine wpList_load_wd rfl 78 (.tmp 4) rfl w.heap.size rfl 78 _ _ HW.out Tryd.underlying78 rfl (by rw [HP.out]; exact size46) ?_) | (refine wpList_store_wd rfl 78 (.tmp 8) (.tmp 24) rfl (w.heap.size + 1) _ rfl rfl 78 _ HZ.out (by rw [HP.out]; exact size46) (by rw [HP.out]; rfl) ?_; intro w5 hg5 hb5))
      refine bodyPost_ret (v := .agg (wd (putL l a (leB n k)))) ?_ rfl ⟨by simp, HB.out.grown hb5.out (by have := HB.out.size; omega) (fun k e => by cases e; simp)⟩
      exact results_cell_row rfl _ _ (w.heap.size + 1) 78 _ (0, 0) _ rfl hg5.out Tryd.underlying78 rfl (by rw [wd_size, HP.out]; exact size46)

end Go.Proofs.YtliiffpegfkpbabDoor
