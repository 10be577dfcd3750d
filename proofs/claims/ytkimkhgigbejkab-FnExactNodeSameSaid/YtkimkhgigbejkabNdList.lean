/- Which parts a list has: the program's word on it. -/
import Derived.Test.YtkimkhgigbejkabNdItems
namespace Go.Proofs.Ytkimkhgigbejkab
open Go.RowKit
/-- the parts of a list. -/
def listB (k s c : Int) (d : ByteArray) (lp li : Nat) (ib : Bool) : Bool :=
  decide (k = 2) && (wiB c 12801 && (if 0 ≤ s ∧ s ≤ 5 then bitsB d (c * bz s) && (decide (lp = 0) && decide (li = 0)) else if s = 6 then decide (d.size = 0) && (decide ((lp : Int) = c) && decide (li = 0)) else if s = 7 then decide (d.size = 0) && (decide (lp = 0) && (decide ((li : Int) = c) && ib)) else false))
def listN (n : Nd) : Bool := listB n.kind n.size n.count n.data n.ptrs.length n.items.length (itemsB n.items)
theorem wi_out {n b : Int} (h : wiB n b = true) : 0 ≤ n ∧ n < b := by simpa [wiB] using h
end Go.Proofs.Ytkimkhgigbejkab
