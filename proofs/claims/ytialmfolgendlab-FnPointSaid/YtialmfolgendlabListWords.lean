/- impl.ListWords and spec.ListWords answer the same at every argument. No condition. -/
import Derived.Test.YtialmfolgendlabIn
namespace Go.Proofs.Ytialmfolgendlab
open Go.RowKit

def withB (n b : Int) : Bool := decide (0 ≤ n ∧ n < b)
set_option maxHeartbeats 400000 in
theorem within_any (n b : Int) (w : World) :
    Calls Try.prog 50 #[.int .i64 n, .int .i64 b] w fun e w' => e = .returned (.bool (withB n b)) ∧ w = w' := by
  by_cases h1 : 0 ≤ n
  all_goals
    go_enter Try.func50, Try.ntmps50
    go_wp2
    all_goals go_ret
    all_goals refine ⟨ret_bool ?_, rfl⟩
    all_goals (simp [withB]; try omega)

/-- how many bits one of a size has. -/
def bitsOf (n : Int) : Int := if n = 1 then 1 else if n = 2 then 8 else if n = 3 then 16 else if n = 4 then 32 else if n = 5 then 64 else if n = 6 then 64 else 0
set_option maxHeartbeats 400000 in
theorem sizeBits_any (n : Int) (w : World) (h0 : 0 ≤ n) (h1 : n ≤ 6) :
    Calls Try.prog 66 #[.int .i64 n] w fun e w' => e = .returned (.int .i64 (bitsOf n)) ∧ w = w' := by
  have h : n = 0 ∨ n = 1 ∨ n = 2 ∨ n = 3 ∨ n = 4 ∨ n = 5 ∨ n = 6 := by omega
  rcases h with rfl | rfl | rfl | rfl | rfl | rfl | rfl
  all_goals
    go_enter Try.func66, Try.ntmps66
    go_wp2
    go_ret
    exact ⟨ret_int (by decide), rfl⟩
set_option maxHeartbeats 400000 in
theorem l2Bits_any (n : Int) (w : World) (h0 : 0 ≤ n) (h1 : n ≤ 6) :
    Calls Try.prog 52 #[.int .i64 n] w fun e w' => e = .returned (.int .i64 (bitsOf n)) ∧ Below w.heap.size w w' := by
  have h : n = 0 ∨ n = 1 ∨ n = 2 ∨ n = 3 ∨ n = 4 ∨ n = 5 ∨ n = 6 := by omega
  rcases h with rfl | rfl | rfl | rfl | rfl | rfl | rfl
  all_goals
    go_enter Try.func52, Try.ntmps52
    go_wp2
    go_ret
    exact ⟨ret_int (by decide), (Below.refl _ _).alloc (Nat.le_refl _) _⟩
theorem bitsOf_bd (n : Int) : 0 ≤ bitsOf n ∧ bitsOf n ≤ 64 := by unfold bitsOf; split <;> (try split) <;> (try split) <;> (try split) <;> (try split) <;> (try split) <;> omega

/-- how many words so many of a size need. -/
def wfI (size count : Int) : Int := (bitsOf size * count + 63) / 64
set_option maxHeartbeats 400000 in
theorem wordsFor_any (size count : Int) (w : World) (a1 : 0 ≤ size) (a2 : size ≤ 6) (c1 : 0 ≤ count) (c2 : count ≤ 1000000000) :
    Calls Try.prog 51 #[.int .i64 size, .int .i64 count] w fun e w' => e = .returned (.int .i64 (wfI size count)) ∧ w = w' := by
  have hb := bitsOf_bd size
  have hfin : wfI size count = (count * bitsOf size + 64 - 1) / 64 := by
    rw [wfI, Int.mul_comm]; congr 1; omega
  obtain ⟨b1, b2⟩ := hb
  have m0 : 0 ≤ count * bitsOf size := Int.mul_nonneg c1 b1
  have m1 : count * bitsOf size ≤ 1000000000 * 64 := Int.mul_le_mul c2 b2 b1 (by decide)
  rw [hfin]
  clear hfin
  go_enter Try.func51, Try.ntmps51
  go_wp2_with (first | (go_at_call 66; refine (sizeBits_any _ _ a1 a2).mono ?_; rintro e w' ⟨rfl, rfl⟩))
  go_ret
  exact ⟨ret_int rfl, rfl⟩

/-- what ListWords answers. -/
def lwI (size count : Int) : Int := if (0 ≤ size ∧ size ≤ 6) ∧ (0 ≤ count ∧ count ≤ 1000000) then (bitsOf size * count + 63) / 64 else -1

set_option maxHeartbeats 400000 in
theorem implListWords_any (size count : Int) (w : World) :
    Calls Try.prog 21 #[.int .i64 size, .int .i64 count] w fun e w' => e = .returned (.int .i64 (lwI size count)) ∧ w = w' := by
  by_cases h1 : 0 ≤ size ∧ size ≤ 6
  · have d1 : withB size 7 = true := by simp [withB]; omega
    by_cases h2 : 0 ≤ count ∧ count ≤ 1000000
    · have d2 : withB count 1000001 = true := by simp [withB]; omega
      have hfin : lwI size count = wfI size count := by rw [lwI, if_pos ⟨h1, h2⟩, wfI]
      obtain ⟨a1, a2⟩ := h1
      obtain ⟨c1, c2⟩ := h2
      rw [hfin]
      clear hfin
      go_enter Try.func21, Try.ntmps21
      go_wp2_with (first | (go_at_call 50; refine (within_any _ _ _).mono ?_; rintro e w' ⟨rfl, rfl⟩) | (go_at_call 51; refine (wordsFor_any _ _ _ a1 a2 c1 (by omega)).mono ?_; rintro e w' ⟨rfl, rfl⟩))
      go_ret
      exact ⟨ret_int rfl, rfl⟩
    · rw [lwI, if_neg (fun h => h2 h.2)]
      have d2 : withB count 1000001 = false := by simp [withB]; omega
      obtain ⟨a1, a2⟩ := h1
      clear h2
      go_enter Try.func21, Try.ntmps21
      go_wp2_with (first | (go_at_call 50; refine (within_any _ _ _).mono ?_; rintro e w' ⟨rfl, rfl⟩))
      go_ret
      exact ⟨rfl, rfl⟩
  · rw [lwI, if_neg (fun h => h1 h.1)]
    have d1 : withB size 7 = false := by simp [withB]; omega
    clear h1
    go_enter Try.func21, Try.ntmps21
    go_wp2_with (first | (go_at_call 50; refine (within_any _ _ _).mono ?_; rintro e w' ⟨rfl, rfl⟩))
    go_ret
    exact ⟨rfl, rfl⟩

set_option maxHeartbeats 400000 in
theorem specListWords_any (size count : Int) (w : World) :
    Calls Try.prog 22 #[.int .i64 size, .int .i64 count] w fun e w' => e = .returned (.int .i64 (lwI size count)) ∧ Below w.heap.size w w' := by
  by_cases h1 : 0 ≤ size ∧ size ≤ 6
  · have d1 : inB size 0 6 = true := by simp [inB]; omega
    by_cases h2 : 0 ≤ count ∧ count ≤ 1000000
    · have d2 : inB count 0 1000000 = true := by simp [inB]; omega
      have hb := bitsOf_bd size
      have hfin : lwI size count = (bitsOf size * count + 63) / 64 := by rw [lwI, if_pos ⟨h1, h2⟩]
      obtain ⟨a1, a2⟩ := h1
      obtain ⟨c1, c2⟩ := h2
      obtain ⟨b1, b2⟩ := hb
      have m0 : 0 ≤ bitsOf size * count := Int.mul_nonneg b1 c1
      have m1 : bitsOf size * count ≤ 64 * 1000000 := Int.mul_le_mul b2 c2 c1 (by decide)
      rw [hfin]
      clear hfin
      go_enter Try.func22, Try.ntmps22
      go_wp2_with (first | (go_at_call 41; refine (l1In_any _ _ _ _).mono ?_; rintro e w' ⟨rfl, rfl⟩) | (go_at_call 52; refine (l2Bits_any _ _ a1 a2).mono ?_; rintro e w1 ⟨rfl, hb1⟩))
      go_ret
      exact ⟨ret_int rfl, hb1⟩
    · rw [lwI, if_neg (fun h => h2 h.2)]
      have d2 : inB count 0 1000000 = false := by simp [inB]; omega
      obtain ⟨a1, a2⟩ := h1
      clear h2
      go_enter Try.func22, Try.ntmps22
      go_wp2_with (first | (go_at_call 41; refine (l1In_any _ _ _ _).mono ?_; rintro e w' ⟨rfl, rfl⟩))
      go_ret
      exact ⟨rfl, Below.refl _ _⟩
  · rw [lwI, if_neg (fun h => h1 h.1)]
    have d1 : inB size 0 6 = false := by simp [inB]; omega
    clear h1
    go_enter Try.func22, Try.ntmps22
    go_wp2_with (first | (go_at_call 41; refine (l1In_any _ _ _ _).mono ?_; rintro e w' ⟨rfl, rfl⟩))
    go_ret
    exact ⟨rfl, Below.refl _ _⟩

set_option maxHeartbeats 400000 in
theorem walkExactListWords (size : Int) (_w1 : (Lit.int .i64 size).wf = true) (count : Int) (_w2 : (Lit.int .i64 count).wf = true) (w : World) :
    Calls Try.prog 9 #[.int .i64 size, .int .i64 count] w fun e w' => e = .returned (.bool true) ∧ Below w.heap.size w w' := by
  go_enter Try.func9, Try.ntmps9
  go_wp2_with (first | (go_at_call 22; go_must (refine (specListWords_any _ _ _).mono ?_); rintro e w1 ⟨rfl, hb1⟩) | (go_at_call 21; go_must (refine (implListWords_any _ _ _).mono ?_); rintro e w' ⟨rfl, rfl⟩))
  go_ret
  exact ⟨rfl, hb1⟩
end Go.Proofs.Ytialmfolgendlab
