/- Plain facts: the word of a pointer is read back. No Go text. -/
import Derived.Test.YtliiffpegfkpbabDoorMathGet
import Derived.Test.YtliiffpegfkpbabDoorPtMath
namespace Go.Proofs.YtliiffpegfkpbabDoor
open Go.RowKit
theorem shr_all (n : Int) : ∀ k, shr8 n k = n / 256 ^ k
  | 0 => by simp [shr8]
  | k + 1 => by rw [shr8, shr_all n k, Int.pow_succ, Int.ediv_ediv_of_nonneg (Int.pow_nonneg (by decide))]
theorem leB_add (n : Int) : ∀ (a b : Nat), leB n (a + b) = leB n a ++ leB (n / 256 ^ a) b
  | 0, b => by simp [leB]
  | a + 1, b => by
    rw [show a + 1 + b = (a + b) + 1 by omega, leB, leB, leB_add (n / 256) a b, List.cons_append, Int.pow_succ, Int.mul_comm (256 ^ a) 256, Int.ediv_ediv_of_nonneg (by decide)]
theorem leB_md (n m : Int) : ∀ (k : Nat) (c : Int), n = m + c * 256 ^ k → leB n k = leB m k
  | 0, _, _ => rfl
  | k + 1, c, h => by
    have e : n = m + 256 * (c * 256 ^ k) := by rw [h, Int.pow_succ, Int.mul_comm (256 ^ k) 256, ← Int.mul_assoc, Int.mul_comm c 256, Int.mul_assoc]
    rw [leB, leB, leB_md (n / 256) (m / 256) k c (by omega), show n % 256 = m % 256 by omega]
/-- eight bytes of two numbers. -/
theorem leB_two (lo hi : Int) (h0 : 0 ≤ lo) (h1 : lo < 4294967296) : leB (lo + 4294967296 * hi) 8 = leB lo 4 ++ leB hi 4 := by
  have h := leB_add (lo + 4294967296 * hi) 4 4
  have e : (256 : Int) ^ 4 = 4294967296 := rfl
  rw [e, show (lo + 4294967296 * hi) / 4294967296 = hi by omega] at h
  rw [h, leB_md (lo + 4294967296 * hi) lo 4 hi (by rw [e]; omega)]
theorem leB_four (d p : Int) (h0 : 0 ≤ d) (h1 : d < 65536) : leB (d + 65536 * p) 4 = leB d 2 ++ leB p 2 := by
  have h := leB_add (d + 65536 * p) 2 2
  have e : (256 : Int) ^ 2 = 65536 := rfl
  rw [e, show (d + 65536 * p) / 65536 = p by omega] at h
  rw [h, leB_md (d + 65536 * p) d 2 p (by rw [e]; omega)]
/-- a distance in its thirty bits. -/
def offN (o : Int) : Int := o % 1073741824 * 4
theorem offN_bd (o : Int) : 0 ≤ offN o ∧ offN o ≤ 4294967292 := by unfold offN; omega
theorem sgn_off (o : Int) (lo : Nat) (hl : (lo : Int) = offN o ∨ (lo : Int) = offN o + 1) (h0 : -536870912 ≤ o) (h1 : o ≤ 536870911) : sgn lo = o := by
  unfold offN at hl
  unfold sgn
  split <;> omega
theorem getP_str (o d p : Int) (lo hi : Nat) (hlo : (lo : Int) = offN o) (hhi : (hi : Int) = d + 65536 * p) (h0 : -536870912 ≤ o) (h1 : o ≤ 536870911) (hd0 : 0 ≤ d) (hd1 : d < 65536) (hp0 : 0 ≤ p) (_hp1 : p < 65536) (hz : ¬ (o = 0 ∧ d = 0 ∧ p = 0)) :
    getP lo hi = (1, o, d, p, 0, 0, 0, false) := by
  have hs := sgn_off o lo (.inl hlo) h0 h1
  have hne : ¬ (lo = 0 ∧ hi = 0) := by unfold offN at hlo; omega
  have h4 : lo % 4 = 0 := by unfold offN at hlo; omega
  rw [getP, if_neg hne, if_pos h4, hs, show ((hi % 65536 : Nat) : Int) = d by omega, show ((hi / 65536 : Nat) : Int) = p by omega]
theorem getP_lis (o s c : Int) (lo hi : Nat) (hlo : (lo : Int) = offN o + 1) (hhi : (hi : Int) = c * 8 + s) (h0 : -536870912 ≤ o) (h1 : o ≤ 536870911) (hs0 : 0 ≤ s) (hs1 : s < 8) (hc0 : 0 ≤ c) :
    getP lo hi = (2, o, 0, 0, s, c, 0, false) := by
  have hs := sgn_off o lo (.inr hlo) h0 h1
  have h4 : lo % 4 = 1 := by unfold offN at hlo; omega
  rw [getP, if_neg (by omega), if_neg (by omega), if_pos h4, hs, show ((hi % 8 : Nat) : Int) = s by omega, show ((hi / 8 : Nat) : Int) = c by omega]
theorem getP_far (o g : Int) (t : Bool) (lo hi : Nat) (hlo : (lo : Int) = if t then o * 8 + 6 else o * 8 + 2) (hhi : (hi : Int) = g) (h0 : 0 ≤ o) :
    getP lo hi = (3, o, 0, 0, 0, 0, g, t) := by
  cases t
  · simp only [Bool.false_eq_true, if_false] at hlo
    rw [getP, if_neg (by omega), if_neg (by omega), if_neg (by omega), if_pos (by omega), show ((lo / 8 : Nat) : Int) = o by omega, hhi, show decide (lo / 4 % 2 = 1) = false by simp; omega]
  · simp only [if_true] at hlo
    rw [getP, if_neg (by omega), if_neg (by omega), if_neg (by omega), if_pos (by omega), show ((lo / 8 : Nat) : Int) = o by omega, hhi, show decide (lo / 4 % 2 = 1) = true by simp; omega]
/-- the two numbers of a word. -/
theorem two_of (lo hi : Int) (h0 : 0 ≤ lo) (h1 : lo < 4294967296) (g0 : 0 ≤ hi) (g1 : hi < 4294967296) :
    ((leN (leB lo 4 ++ leB hi 4) 0 4 : Nat) : Int) = lo ∧ ((leN (leB lo 4 ++ leB hi 4) 4 4 : Nat) : Int) = hi := by
  have e : (256 : Int) ^ 4 = 4294967296 := rfl
  constructor
  · rw [leN_congr (leB lo 4 ++ leB hi 4) (leB lo 4) 4 0 0 (fun i hi => by rw [List.getElem?_append_left (by rw [leB_length]; omega)]), leN_leB, e]; omega
  · rw [leN_congr (leB lo 4 ++ leB hi 4) (leB hi 4) 4 4 0 (fun i hi => by rw [List.getElem?_append_right (by rw [leB_length]; omega), leB_length]; congr 1; omega), leN_leB, e]; omega
theorem word_two (l : List UInt8) (h : l.length = 8) : leB ((leN l 0 4 : Nat) : Int) 4 ++ leB ((leN l 4 4 : Nat) : Int) 4 = l := by
  rw [leB_leN l 4 0 (by omega), leB_leN l 4 4 (by omega), List.drop_zero, List.take_of_length_le (l := l.drop 4) (by simp; omega), List.take_append_drop]
/-- what a word says can be written, as that word. -/
theorem getP_put (lo hi : Nat) (hlo : lo < 4294967296) (hhi : hi < 4294967296) :
    (lo = 0 ∧ hi = 0 ∧ getP lo hi = (0, 0, 0, 0, 0, 0, 0, false)) ∨
    (∃ o d p : Int, getP lo hi = (1, o, d, p, 0, 0, 0, false) ∧ (-536870912 ≤ o ∧ o ≤ 536870911) ∧ (0 ≤ d ∧ d < 65536) ∧ (0 ≤ p ∧ p < 65536) ∧ ¬ (o = 0 ∧ d = 0 ∧ p = 0) ∧ offN o = lo ∧ d + 65536 * p = hi) ∨
    (∃ o s c : Int, getP lo hi = (2, o, 0, 0, s, c, 0, false) ∧ (-536870912 ≤ o ∧ o ≤ 536870911) ∧ (0 ≤ s ∧ s < 8) ∧ (0 ≤ c ∧ c < 536870912) ∧ offN o + 1 = lo ∧ c * 8 + s = hi) ∨
    (∃ (o g : Int) (t : Bool), getP lo hi = (3, o, 0, 0, 0, 0, g, t) ∧ (0 ≤ o ∧ o ≤ 536870911) ∧ (0 ≤ g ∧ g < 4294967296) ∧ (if t then o * 8 + 6 else o * 8 + 2) = (lo : Int) ∧ g = hi) ∨
    getP lo hi = (4, 0, 0, 0, 0, 0, 0, false) := by
  by_cases h00 : lo = 0 ∧ hi = 0
  · exact .inl ⟨h00.1, h00.2, by rw [getP, if_pos h00]⟩
  by_cases h0 : lo % 4 = 0
  · refine .inr (.inl ⟨sgn lo, ((hi % 65536 : Nat) : Int), ((hi / 65536 : Nat) : Int), by rw [getP, if_neg h00, if_pos h0], ?_, by omega, by omega, ?_, ?_, by omega⟩)
    · unfold sgn; split <;> omega
    · unfold sgn; split <;> omega
    · unfold sgn offN; split <;> omega
  by_cases h1 : lo % 4 = 1
  · refine .inr (.inr (.inl ⟨sgn lo, ((hi % 8 : Nat) : Int), ((hi / 8 : Nat) : Int), by rw [getP, if_neg h00, if_neg h0, if_pos h1], ?_, by omega, by omega, ?_, by omega⟩))
    · unfold sgn; split <;> omega
    · unfold sgn offN; split <;> omega
  by_cases h2 : lo % 4 = 2
  · refine .inr (.inr (.inr (.inl ⟨((lo / 8 : Nat) : Int), (hi : Int), decide (lo / 4 % 2 = 1), by rw [getP, if_neg h00, if_neg h0, if_neg h1, if_pos h2], by omega, by omega, ?_, rfl⟩)))
    by_cases ht : lo / 4 % 2 = 1
    · rw [if_pos (by simpa using ht)]; omega
    · rw [if_neg (by simpa using ht)]; omega
  · exact .inr (.inr (.inr (.inr (by rw [getP, if_neg h00, if_neg h0, if_neg h1, if_neg h2]))))
end Go.Proofs.YtliiffpegfkpbabDoor
