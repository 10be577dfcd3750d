/- The specification's word on bytes of lists. -/
import Derived.Test.YtkimkhgigbejkabNdList
namespace Go.Proofs.Ytkimkhgigbejkab
open Go.RowKit
theorem bits_rest {d : ByteArray} {b : Int} (h0 : 0 ≤ b) (hs : (d.size : Int) = (b + 7) / 8) (h8 : b % 8 = 0) : bitsB d b = true := by simp [bitsB, hs, h8]
theorem div_pow (x r : Nat) : ((x : Int) / (2 : Int) ^ r == 0) = decide (x < 2 ^ r) := by
  have h : (2 : Int) ^ r = ((2 ^ r : Nat) : Int) := by simp
  have hp : 0 < 2 ^ r := Nat.two_pow_pos r
  rw [h, Bool.eq_iff_iff]
  generalize 2 ^ r = p at *
  rw [← Int.natCast_ediv]
  simp only [beq_iff_eq, decide_eq_true_eq]
  have := Nat.div_eq_zero_iff (a := x) (b := p)
  omega
end Go.Proofs.Ytkimkhgigbejkab
