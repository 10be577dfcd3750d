/- The word of a pointer: plain facts on its two numbers; impl's wordOf. -/
import Derived.Test.YtliiffpegfkpbabDoorPut
import Derived.Test.YtliiffpegfkpbabDoorWText
import Derived.Test.YtliiffpegfkpbabDoorBytes
import Derived.Test.YtliiffpegfkpbabDoorMathPt
namespace Go.Proofs.YtliiffpegfkpbabDoor
open Go.RowKit
def zeros8 : List UInt8 := [0, 0, 0, 0, 0, 0, 0, 0]
theorem put_zero (n : Int) (w : World) (hn0 : 0 ≤ n) (hn1 : n < 18446744073709551616) :
    Calls Tryd.prog 59 #[.agg #[.int .u8 0, .int .u8 0, .int .u8 0, .int .u8 0, .int .u8 0, .int .u8 0, .int .u8 0, .int .u8 0], .int .i64 0, .int .i64 8, .int .u64 n] w fun e w' => e = .returned (.agg (wd (leB n 8))) ∧ Below w.heap.size w w' := by
  have hput : putL zeros8 (0 : Int).toNat (leB n (8 : Int).toNat) = leB n 8 := by
    show putL zeros8 0 (leB n 8) = leB n 8
    rw [putL, leB_length, zeros8]; simp
  have h := put_any zeros8 0 8 n w rfl (by decide) (by decide) (by decide) hn0 hn1
  rw [hput] at h
  exact h
set_option maxHeartbeats 1000000 in
theorem wordOf_any (n : Int) (w : World) (hn0 : 0 ≤ n) (hn1 : n < 18446744073709551616) :
    Calls Tryd.prog 52 #[.int .u64 n] w fun e w' => e = .returned (.agg (wd (leB n 8))) ∧ Below w.heap.size w w' := by
  have HL : Hid ((leB n 8).length = 8) := Lib.hid (leB_length n 8)
  go_enter Tryd.func52, Tryd.ntmps52
  go_wp2_with fail
  refine (put_zero n _ hn0 hn1).mono ?_
  rintro e w1 ⟨rfl, hb1⟩
  have hA : Hid (w1.heap[w.heap.size]? = some (.cells #[.int .u8 0, .int .u8 0, .int .u8 0, .int .u8 0, .int .u8 0, .int .u8 0, .int .u8 0, .int .u8 0] 78 (0, 0))) :=
    (hb1.block w.heap.size (by simp; omega)).trans (heap_alloc2_old w _ _)
  have hB : Hid (Below w.heap.size w w1) := ((Below.refl _ w).alloc (Nat.le_refl _) _ |>.alloc (by simp) _).trans (hb1.mono (by simp; omega))
  clear hb1
  go_wp2_with (refine wpList_store_wd rfl 78 (.tmp 2) (.tmp 6) rfl w.heap.size (leB n 8) rfl rfl 78 _ hA.out (by rw [HL.out]; exact size46) (by rw [HL.out]; rfl) ?_; intro w5 hg5 hb5)
  refine bodyPost_ret (v := .agg (wd (leB n 8))) ?_ rfl ⟨rfl, hB.out.grown hb5.out (by have := hB.out.size; omega) (fun k e => by cases e; simp)⟩
  exact results_cell_row rfl _ _ w.heap.size 78 _ (0, 0) _ rfl hg5.out Tryd.underlying78 rfl (by rw [wd_size, HL.out]; exact size46)
end Go.Proofs.YtliiffpegfkpbabDoor
