/- Which parts a node has. -/
import Derived.Test.YtkimkhgigbejkabNdEq
namespace Go.Proofs.Ytkimkhgigbejkab
open Go.RowKit
/-- all parts are 0 or empty. -/
def noneB (d : ByteArray) (lp : Nat) (s c : Int) (li : Nat) : Bool := d.size == 0 && lp == 0 && s == 0 && c == 0 && li == 0
theorem loop_length (d : ByteArray) (i : Nat) (r : List UInt8) : (ByteArray.toList.loop d i r).length = r.length + (d.size - i) := by
  fun_induction ByteArray.toList.loop d i r with
  | case1 i r h ih => rw [ih]; simp only [List.length_cons]; omega
  | case2 i r h => simp only [List.length_reverse]; omega
theorem toList_isEmpty (d : ByteArray) : d.toList.isEmpty = (d.size == 0) := by
  have h := loop_length d 0 []
  simp only [List.length_nil] at h
  unfold ByteArray.toList
  rw [Bool.eq_iff_iff, List.isEmpty_iff, ← List.length_eq_zero_iff, h]
  simp
theorem toList_nil (d : ByteArray) : d.toList = [] ↔ d.size = 0 := by
  have := toList_isEmpty d
  rw [Bool.eq_iff_iff] at this
  simpa using this
/-- the parts of a struct. -/
def structB (k : Int) (d : ByteArray) (s c : Int) (li : Nat) : Bool := decide (k = 1 ∧ (d.size : Int) % 8 = 0 ∧ s = 0 ∧ c = 0 ∧ li = 0)
end Go.Proofs.Ytkimkhgigbejkab
