/- The laws' own equality of nodes: a node is equal to its like. -/
import Derived.Test.YtapddijogfpkaacNdTo
namespace Go.Proofs.Ytapddijogfpkaac
open Go.RowKit
theorem totL_len' {w : World} {S : Nat → Prop} {m : Nat} {A : Option Addr} {l : List Nd} (h : NdsAt w S m A l) (ht : totL m l ≤ 2000000) : l.length ≤ 2000000 := by
  cases m with
  | zero => rw [h.zero]; decide
  | succ m => exact Nat.le_trans (totL_len m l) ht
end Go.Proofs.Ytapddijogfpkaac
