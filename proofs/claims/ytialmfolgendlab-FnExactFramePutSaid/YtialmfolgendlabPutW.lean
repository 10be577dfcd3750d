/- The word of a pointer: plain facts on its two numbers; impl's wordOf. -/
import Derived.Test.YtialmfolgendlabPut
import Derived.Test.YtialmfolgendlabWText
import Derived.Test.YtialmfolgendlabBytes
import Derived.Test.YtialmfolgendlabMathGet
namespace Go.Proofs.Ytialmfolgendlab
open Go.RowKit
theorem shr_all (n : Int) : ∀ k, shr8 n k = n / 256 ^ k
  | 0 => by simp [shr8]
  | k + 1 => by rw [shr8, shr_all n k, Int.pow_succ, Int.ediv_ediv_of_nonneg (Int.pow_nonneg (by decide))]
theorem leB_add (n : Int) : ∀ (a b : Nat), leB n (a + b) = leB n a ++ leB (n / 256 ^ a) b
  | 0, b => by simp [leB]
  | a + 1, b => by
    rw [show a + 1 + b = (a + b) + 1 by omega, leB, leB, leB_add (n / 256) a b, List.cons_append, Int.pow_succ, Int.mul_comm (256 ^ a) 256, Int.ediv_ediv_of_nonneg (by decide)]
theorem leB_md (n m : Int) : ∀ (k : Nat) (c : Int), n = m + c * 256 ^ k → leB n k = leB m k
  | 0, _, _ => rfl
  | k + 1, c, h => by
    have e : n = m + 256 * (c * 256 ^ k) := by rw [h, Int.pow_succ, Int.mul_comm (256 ^ k) 256, ← Int.mul_assoc, Int.mul_comm c 256, Int.mul_assoc]
    rw [leB, leB, leB_md (n / 256) (m / 256) k c (by omega), show n % 256 = m % 256 by omega]
/-- eight bytes of two numbers. -/
theorem leB_two (lo hi : Int) (h0 : 0 ≤ lo) (h1 : lo < 4294967296) : leB (lo + 4294967296 * hi) 8 = leB lo 4 ++ leB hi 4 := by
  have h := leB_add (lo + 4294967296 * hi) 4 4
  have e : (256 : Int) ^ 4 = 4294967296 := rfl
  rw [e, show (lo + 4294967296 * hi) / 4294967296 = hi by omega] at h
  rw [h, leB_md (lo + 4294967296 * hi) lo 4 hi (by rw [e]; omega)]
theorem leB_four (d p : Int) (h0 : 0 ≤ d) (h1 : d < 65536) : leB (d + 65536 * p) 4 = leB d 2 ++ leB p 2 := by
  have h := leB_add (d + 65536 * p) 2 2
  have e : (256 : Int) ^ 2 = 65536 := rfl
  rw [e, show (d + 65536 * p) / 65536 = p by omega] at h
  rw [h, leB_md (d + 65536 * p) d 2 p (by rw [e]; omega)]
def zeros8 : List UInt8 := [0, 0, 0, 0, 0, 0, 0, 0]
theorem put_zero (n : Int) (w : World) (hn0 : 0 ≤ n) (hn1 : n < 18446744073709551616) :
    Calls Try.prog 63 #[.agg #[.int .u8 0, .int .u8 0, .int .u8 0, .int .u8 0, .int .u8 0, .int .u8 0, .int .u8 0, .int .u8 0], .int .i64 0, .int .i64 8, .int .u64 n] w fun e w' => e = .returned (.agg (wd (leB n 8))) ∧ Below w.heap.size w w' := by
  have hput : putL zeros8 (0 : Int).toNat (leB n (8 : Int).toNat) = leB n 8 := by
    show putL zeros8 0 (leB n 8) = leB n 8
    rw [putL, leB_length, zeros8]; simp
  have h := put_any zeros8 0 8 n w rfl (by decide) (by decide) (by decide) hn0 hn1
  rw [hput] at h
  exact h
set_option maxHeartbeats 1000000 in
theorem wordOf_any (n : Int) (w : World) (hn0 : 0 ≤ n) (hn1 : n < 18446744073709551616) :
    Calls Try.prog 36 #[.int .u64 n] w fun e w' => e = .returned (.agg (wd (leB n 8))) ∧ Below w.heap.size w w' := by
  have HL : Hid ((leB n 8).length = 8) := Lib.hid (leB_length n 8)
  go_enter Try.func36, Try.ntmps36
  go_wp2_with fail
  refine (put_zero n _ hn0 hn1).mono ?_
  rintro e w1 ⟨rfl, hb1⟩
  have hA : Hid (w1.heap[w.heap.size]? = some (.cells #[.int .u8 0, .int .u8 0, .int .u8 0, .int .u8 0, .int .u8 0, .int .u8 0, .int .u8 0, .int .u8 0] 54 (0, 0))) :=
    (hb1.block w.heap.size (by simp; omega)).trans (heap_alloc2_old w _ _)
  have hB : Hid (Below w.heap.size w w1) := ((Below.refl _ w).alloc (Nat.le_refl _) _ |>.alloc (by simp) _).trans (hb1.mono (by simp; omega))
  clear hb1
  go_wp2_with (refine wpList_store_wd rfl 54 (.tmp 2) (.tmp 6) rfl w.heap.size (leB n 8) rfl rfl 54 _ hA.out (by rw [HL.out]; exact size46) (by rw [HL.out]; rfl) ?_; intro w5 hg5 hb5)
  refine bodyPost_ret (v := .agg (wd (leB n 8))) ?_ rfl ⟨rfl, hB.out.grown hb5.out (by have := hB.out.size; omega) (fun k e => by cases e; simp)⟩
  exact results_cell_row rfl _ _ w.heap.size 54 _ (0, 0) _ rfl hg5.out Try.underlying54 rfl (by rw [wd_size, HL.out]; exact size46)
end Go.Proofs.Ytialmfolgendlab
