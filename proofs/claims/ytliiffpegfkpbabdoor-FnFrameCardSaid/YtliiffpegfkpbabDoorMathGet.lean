/- Plain facts: a number that was put into bytes is got from them, and put back. No Go text. No condition beyond each theorem's own. -/
import Derived.Test.YtliiffpegfkpbabDoorMath2
namespace Go.Proofs.YtliiffpegfkpbabDoor
open Go.RowKit
theorem leN_congr (l m : List UInt8) : ∀ (k a b : Nat), (∀ i, i < k → l[a + i]? = m[b + i]?) → leN l a k = leN m b k
  | 0, _, _, _ => rfl
  | k + 1, a, b, h => by
    have h0 := h 0 (by omega)
    simp only [Nat.add_zero] at h0
    have h1 := leN_congr l m k (a + 1) (b + 1) (fun i hi => by
      have := h (i + 1) (by omega)
      rwa [show a + (i + 1) = a + 1 + i by omega, show b + (i + 1) = b + 1 + i by omega] at this)
    rw [leN, leN, h0, h1]
theorem putL_in (l : List UInt8) (a : Nat) (xs : List UInt8) (h : a + xs.length ≤ l.length) (i : Nat) (hi : i < xs.length) : (putL l a xs)[a + i]? = xs[i]? := by
  have e1 : (l.take a).length = a := by simp; omega
  rw [putL, List.getElem?_append_right (by omega), e1, Nat.add_sub_cancel_left, List.getElem?_append_left hi]
theorem putL_out (l : List UInt8) (a : Nat) (xs : List UInt8) (h : a + xs.length ≤ l.length) (j : Nat) (hj : j < a ∨ a + xs.length ≤ j) : (putL l a xs)[j]? = l[j]? := by
  have e1 : (l.take a).length = a := by simp; omega
  rcases hj with hj | hj
  · rw [putL, List.getElem?_append_left (by omega), List.getElem?_take_of_lt hj]
  · rw [putL, List.getElem?_append_right (by omega), e1, List.getElem?_append_right (by omega), List.getElem?_drop]
    congr 1; omega
theorem putL_back (l : List UInt8) (a : Nat) (xs : List UInt8) (h : a + xs.length ≤ l.length) : putL (putL l a xs) a ((l.drop a).take xs.length) = l := by
  have hlen : ((l.drop a).take xs.length).length = xs.length := by simp; omega
  have hp := putL_length l a xs h
  apply List.ext_getElem?
  intro j
  by_cases hj : j < a ∨ a + xs.length ≤ j
  · rw [putL_out _ a _ (by omega) j (by omega), putL_out l a xs h j hj]
  · obtain ⟨i, rfl⟩ : ∃ i, j = a + i := ⟨j - a, by omega⟩
    rw [putL_in _ a _ (by omega) i (by omega), List.getElem?_take_of_lt (by omega), List.getElem?_drop]
theorem emod_256 (n m : Int) : n % (256 * m) = n % 256 + 256 * (n / 256 % m) := by
  rw [Int.emod_def n (256 * m), Int.emod_def (n / 256) m, ← Int.ediv_ediv_of_nonneg (by decide), Int.mul_assoc]
  omega
theorem leN_leB : ∀ (k : Nat) (n : Int), ((leN (leB n k) 0 k : Nat) : Int) = n % 256 ^ k
  | 0, n => by simp [leN, Int.emod_one]
  | k + 1, n => by
    have ih := leN_leB k (n / 256)
    have e : leN (leB n (k + 1)) 1 k = leN (leB (n / 256) k) 0 k := leN_congr _ _ k 1 0 (fun i _ => by rw [leB, Nat.add_comm, List.getElem?_cons_succ, Nat.zero_add])
    rw [leN, Nat.zero_add, e, leB, List.getElem?_cons_zero]
    simp only [Option.getD_some]
    rw [Int.natCast_add, Int.natCast_mul, ih, ofNat_toNat_u8, Int.pow_succ, Int.mul_comm (256 ^ k) 256, emod_256]
    rfl
theorem leN_putL (l : List UInt8) (a : Nat) (n : Int) (k : Nat) (h : a + k ≤ l.length) : ((leN (putL l a (leB n k)) a k : Nat) : Int) = n % 256 ^ k := by
  rw [← leN_leB k n, leN_congr (putL l a (leB n k)) (leB n k) k a 0 (fun i hi => ?_)]
  rw [putL_in l a _ (by rw [leB_length]; exact h) i (by rw [leB_length]; exact hi), Nat.zero_add]
theorem leN_putL_out (l : List UInt8) (a : Nat) (xs : List UInt8) (b k : Nat) (h : a + xs.length ≤ l.length) (hb : b + k ≤ a ∨ a + xs.length ≤ b) : leN (putL l a xs) b k = leN l b k :=
  leN_congr _ _ k b b (fun i hi => putL_out l a xs h (b + i) (by omega))
theorem leB_leN (l : List UInt8) : ∀ (k a : Nat), a + k ≤ l.length → leB ((leN l a k : Nat) : Int) k = (l.drop a).take k
  | 0, _, _ => by simp [leB]
  | k + 1, a, h => by
    have hb := byte_lt l a
    have e1 : (((l[a]?.getD 0).toNat + 256 * leN l (a + 1) k : Nat) : Int) % 256 = ((l[a]?.getD 0).toNat : Int) := by omega
    have e2 : (((l[a]?.getD 0).toNat + 256 * leN l (a + 1) k : Nat) : Int) / 256 = ((leN l (a + 1) k : Nat) : Int) := by omega
    rw [leN, leB, e1, e2, leB_leN l k (a + 1) (by omega), List.drop_eq_getElem_cons (show a < l.length by omega), List.take_succ_cons, List.getElem?_eq_getElem (by omega)]
    simp
theorem leN_2 (l : List UInt8) (a : Nat) : leN l a 2 = leN l a 1 + 256 * leN l (a + 1) 1 := by simp [leN]
theorem leN_4 (l : List UInt8) (a : Nat) : leN l a 4 = leN l a 2 + 65536 * leN l (a + 2) 2 := by simp [leN, Nat.add_assoc]; omega
end Go.Proofs.YtliiffpegfkpbabDoor
