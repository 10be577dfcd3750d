/- The laws' own sizes of nodes. -/
import Derived.Test.YtapddijogfpkaacNd
import Derived.Deep.RegionWith
namespace Go.Proofs.Ytapddijogfpkaac
open Go.RowKit
theorem cells6 {w : World} {g : Nat} {v0 v1 v2 v3 v4 v5 : Value} {T : TypeId} (h : w.heap[g]? = some (.cells #[v0, v1, v2, v3, v4, v5] T (0, 0))) :
    w.cell? ⟨g, 0, none⟩ = some v0 ∧ w.cell? ⟨g, 1, none⟩ = some v1 ∧ w.cell? ⟨g, 2, none⟩ = some v2 ∧ w.cell? ⟨g, 3, none⟩ = some v3 ∧ w.cell? ⟨g, 4, none⟩ = some v4 ∧ w.cell? ⟨g, 5, none⟩ = some v5 := by
  refine ⟨?_, ?_, ?_, ?_, ?_, ?_⟩ <;> (rw [cell_of_row _ _ _ _ _ _ h]; rfl)
/-- how much is in nodes side by side: a place each, their bytes, and what is within, so many levels down. -/
def totL : Nat → List Nd → Nat
  | 0, _ => 0
  | m + 1, l => (l.map fun n => 1 + (n.data.size + totL m n.ptrs + totL m n.items)).sum
def totN (m : Nat) (n : Nd) : Nat := n.data.size + totL m n.ptrs + totL m n.items
theorem totL_succ (m : Nat) (l : List Nd) : totL (m + 1) l = (l.map fun n => 1 + totN m n).sum := rfl
theorem sum_take_succ (l : List Nd) (f : Nd → Nat) (k : Nat) (h : k < l.length) : ((l.take (k + 1)).map f).sum = ((l.take k).map f).sum + f l[k] := by
  rw [List.take_succ_eq_append_getElem h, List.map_append, List.sum_append]; simp
theorem sum_take_le (l : List Nd) (f : Nd → Nat) (k : Nat) : ((l.take k).map f).sum ≤ (l.map f).sum := by
  conv => rhs; rw [← List.take_append_drop k l, List.map_append, List.sum_append]
  omega
theorem sum_one (l : List Nd) (f : Nd → Nat) : (l.map fun n => 1 + f n).sum = l.length + (l.map f).sum := by
  induction l with
  | nil => rfl
  | cons a t ih => simp only [List.map_cons, List.sum_cons, List.length_cons, ih]; omega
theorem totL_at {m : Nat} {l : List Nd} {k : Nat} (h : k < l.length) : 1 + totN m l[k] ≤ totL (m + 1) l := by
  have h1 := sum_take_succ l (fun n => 1 + totN m n) k h
  have h2 := sum_take_le l (fun n => 1 + totN m n) (k + 1)
  rw [totL_succ]
  omega
theorem totL_len (m : Nat) (l : List Nd) : l.length ≤ totL (m + 1) l := by
  rw [totL_succ, sum_one]; omega
/-- what the sizes' functions answer. -/
def szR (left : Int) (t : Nat) : Int := if left < t then -1 else left - t
theorem szR_neg {left : Int} {t : Nat} (h : left < t) : szR left t = -1 := if_pos h
theorem szR_pos {left : Int} {t : Nat} (h : (t : Int) ≤ left) : szR left t = left - t := if_neg (by omega)
end Go.Proofs.Ytapddijogfpkaac
