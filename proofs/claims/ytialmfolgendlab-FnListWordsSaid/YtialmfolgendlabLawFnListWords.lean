/- The walk of the law FnListWords: true at every code. -/
import Derived.Test.YtialmfolgendlabListWords
import Derived.Test.YtialmfolgendlabArgB
namespace Go.Proofs.Ytialmfolgendlab
open Go.RowKit
def DrawLW (w : World) (e : Ending) (w' : World) : Prop := ∃ (z n : Int), (-1 ≤ z ∧ z ≤ 7) ∧ (-1 ≤ n ∧ n ≤ 1000001) ∧ e = .returned (.tuple #[.int .i64 z, .int .i64 n]) ∧ Below w.heap.size w w'
set_option maxHeartbeats 2000000 in
theorem drawListWords_any (a : Option Addr) (len cap : Nat) (w : World) (h : Arg w a len cap) :
    Calls Try.prog 20 #[.slice a len cap] w (DrawLW w) := by
  go_enter Try.func20, Try.ntmps20
  go_wp2_with fail
  refine (l1Open_any a len cap _ h.1 h.2.1 h.2.2).mono ?_
  rintro e w1 ⟨R, rfl, hR, hrd, hb1⟩
  go_wp2_with fail
  refine (pick_any R 0 _ _ hrd (by omega)).mono ?_
  rintro e w3 ⟨v, ⟨hv0, hv1⟩, rfl, hp3⟩
  have hv : v ≤ 8 := by omega
  clear hv1
  have hRl := hp3.1.lt
  go_wp2_with fail
  refine (one_any R 1 w3.heap.size 9 9 (fun z => -1 ≤ z ∧ z ≤ 1000001) _ _ (by exact hp3.1.below ((Below.refl _ _).alloc (Nat.le_refl _) _)) (by omega) (by exact Lits.new _ _ _ _) (by
    intro v hv
    simp at hv
    rcases hv with rfl | rfl | rfl | rfl | rfl | rfl | rfl | rfl | rfl
    all_goals exact ⟨_, rfl, by omega⟩) (by omega) (by simp) (by omega) (by omega)).mono ?_
  rintro e w4 ⟨y, hy, rfl, hp4⟩
  go_wp2
  go_ret2
  exact ⟨v - 1, y, by omega, hy, rfl, opened_below hR hb1 ((hp3.below ((Below.refl _ _).alloc (Nat.le_refl _) _)).then hp4)⟩
theorem lw_law (z n : Int) (hz0 : 0 ≤ z) (hz1 : z ≤ 6) (hn0 : 0 ≤ n) (hn1 : n < 1000000) :
    bitsOf z * n ≤ 64 * lwI z n ∧ 64 * (lwI z n - 1) < bitsOf z * n ∧ lwI z n ≤ lwI z (n + 1) ∧ 0 ≤ lwI z n ∧ lwI z n ≤ 1000000 ∧ lwI z (n + 1) ≤ 1000000 := by
  have h : z = 0 ∨ z = 1 ∨ z = 2 ∨ z = 3 ∨ z = 4 ∨ z = 5 ∨ z = 6 := by omega
  have e1 : lwI z n = (bitsOf z * n + 63) / 64 := by rw [lwI, if_pos ⟨⟨hz0, hz1⟩, hn0, by omega⟩]
  have e2 : lwI z (n + 1) = (bitsOf z * (n + 1) + 63) / 64 := by rw [lwI, if_pos ⟨⟨hz0, hz1⟩, by omega, by omega⟩]
  rw [e1, e2]
  have b0 : bitsOf 0 = 0 := rfl
  have b1 : bitsOf 1 = 1 := rfl
  have b2 : bitsOf 2 = 8 := rfl
  have b3 : bitsOf 3 = 16 := rfl
  have b4 : bitsOf 4 = 32 := rfl
  have b5 : bitsOf 5 = 64 := rfl
  have b6 : bitsOf 6 = 64 := rfl
  rcases h with rfl | rfl | rfl | rfl | rfl | rfl | rfl
  · rw [b0]; omega
  · rw [b1]; omega
  · rw [b2]; omega
  · rw [b3]; omega
  · rw [b4]; omega
  · rw [b5]; omega
  · rw [b6]; omega
set_option maxHeartbeats 4000000 in
theorem walkFnListWords (w : World) (a : Option Addr) (len cap : Nat) (h : Arg w a len cap) :
    Calls Try.prog 4 #[.slice a len cap] w fun e w' => e = .returned (.bool true) ∧ Below w.heap.size w w' := by
  have hlen := h.1.1
  unfold maxLen at hlen
  by_cases hbig : 1048576 < len
  · go_enter Try.func4, Try.ntmps4
    go_wp2
    go_ret
    exact ⟨rfl, Below.refl _ _⟩
  go_enter Try.func4, Try.ntmps4
  go_wp2_with fail
  refine (drawListWords_any a len cap _ h).mono ?_
  rintro e w1 ⟨z, n, ⟨hz0, hz1⟩, ⟨hn0, hn1⟩, rfl, hb13⟩
  go_wp2_with fail
  refine (implListWords_any _ _ _).mono ?_
  rintro e w' ⟨rfl, rfl⟩
  go_wp2_with fail
  refine (specListWords_any _ _ _).mono ?_
  rintro e w2 ⟨rfl, hb2⟩
  replace hb13 := hb13.trans (hb2.mono hb13.size)
  by_cases hin : (0 ≤ z ∧ z ≤ 6) ∧ 0 ≤ n ∧ n ≤ 1000000
  · obtain ⟨⟨g1, g2⟩, g3, g4⟩ := hin
    by_cases hm : n < 1000000
    · obtain ⟨q1, q2, q3, q4, q5, q6⟩ := lw_law z n g1 g2 g3 hm
      have hz : z = 0 ∨ z = 1 ∨ z = 2 ∨ z = 3 ∨ z = 4 ∨ z = 5 ∨ z = 6 := by omega
      have b0 : bitsOf 0 = 0 := rfl
      have b1 : bitsOf 1 = 1 := rfl
      have b2 : bitsOf 2 = 8 := rfl
      have b3 : bitsOf 3 = 16 := rfl
      have b4 : bitsOf 4 = 32 := rfl
      have b5 : bitsOf 5 = 64 := rfl
      have b6 : bitsOf 6 = 64 := rfl
      rcases hz with rfl | rfl | rfl | rfl | rfl | rfl | rfl
      all_goals
        simp only [b0, b1, b2, b3, b4, b5, b6] at q1 q2
        go_wp2_with (first | (go_at_call 21; go_must (refine (implListWords_any _ _ _).mono ?_); rintro e w' ⟨rfl, rfl⟩))
        go_ret
        exact ⟨rfl, hb13.alloc hb13.size _⟩
    · have e1 : lwI z n = (bitsOf z * n + 63) / 64 := by rw [lwI, if_pos ⟨⟨g1, g2⟩, g3, g4⟩]
      have hb := bitsOf_bd z
      have hge : 0 ≤ lwI z n := by
        rw [e1]
        have := Int.mul_nonneg hb.1 g3
        omega
      clear e1
      go_wp2_with (first | (go_at_call 22; go_must (refine (specListWords_any _ _ _).mono ?_); rintro e w3 ⟨rfl, hb3⟩; replace hb13 := hb13.trans (hb3.mono hb13.size)))
      go_ret
      exact ⟨rfl, hb13⟩
  · have e1 : lwI z n = -1 := by rw [lwI, if_neg hin]
    have hl : lwI z n < 0 := by omega
    clear e1 hin
    go_wp2_with (first | (go_at_call 22; go_must (refine (specListWords_any _ _ _).mono ?_); rintro e w3 ⟨rfl, hb3⟩; replace hb13 := hb13.trans (hb3.mono hb13.size)))
    go_ret
    exact ⟨rfl, hb13⟩
end Go.Proofs.Ytialmfolgendlab
