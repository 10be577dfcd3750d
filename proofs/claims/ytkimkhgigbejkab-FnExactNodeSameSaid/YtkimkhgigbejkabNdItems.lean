/- Which nodes may stand in one list. -/
import Derived.Test.YtkimkhgigbejkabNdBits
import Derived.Lib.QuietBelow
namespace Go.Proofs.Ytkimkhgigbejkab
open Go.RowKit
/-- a node may be an item beside another one. -/
def itemB (n h : Nd) : Bool := structB n.kind n.data n.size n.count n.items.length && (decide (n.data.size = h.data.size) && decide (n.ptrs.length = h.ptrs.length))
def itemsB (l : List Nd) : Bool := l.all fun n => itemB n (l.headD default)
theorem itemsB_take {l : List Nd} {k : Nat} (h : k < l.length) (hh : (l.take k).all (fun n => itemB n (l.headD default)) = true) (hn : itemB l[k] (l.headD default) = true) : (l.take (k + 1)).all (fun n => itemB n (l.headD default)) = true := by
  rw [List.take_succ_eq_append_getElem h, List.all_append, hh]
  simpa using hn
theorem itemsB_false {l : List Nd} {k : Nat} (h : k < l.length) (hn : itemB l[k] (l.headD default) = false) : itemsB l = false := by
  unfold itemsB
  rw [List.all_eq_false]
  exact ⟨l[k], List.getElem_mem h, by rw [hn]; decide⟩
theorem head_at {l : List Nd} (h : 0 < l.length) : l[0] = l.headD default := by
  cases l with
  | nil => cases h
  | cons a t => rfl
theorem addr_zero (x : Addr) : x.add (0 * 6) = x := by simp [Addr.add]
end Go.Proofs.Ytkimkhgigbejkab
