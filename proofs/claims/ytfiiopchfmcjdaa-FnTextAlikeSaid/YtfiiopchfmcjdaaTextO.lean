/- TextOf: the program's. -/
import Derived.Test.YtfiiopchfmcjdaaTextP
import Derived.Test.YtfiiopchfmcjdaaShelf
namespace Go.Proofs.Ytfiiopchfmcjdaa
open Go.RowKit
theorem tx_no {n : Nd} (h0 : noTx n = false) (h1 : isTx n = false) : txS n = ⟨#[]⟩ ∧ txB n = false := by unfold txS txB; rw [h0, h1]; exact ⟨rfl, rfl⟩
theorem tx_none {n : Nd} (h0 : noTx n = true) : txS n = ⟨#[]⟩ ∧ txB n = true := by unfold txS txB; rw [h0]; exact ⟨rfl, rfl⟩
theorem tx_yes {n : Nd} (h0 : noTx n = false) (h1 : isTx n = true) : txS n = n.data.extract 0 (n.data.size - 1) ∧ txB n = true := by unfold txS txB; rw [h0, h1]; exact ⟨rfl, rfl⟩
theorem tx_kind {n : Nd} (h : n.kind ≠ 2) : isTx n = false := by unfold isTx; rw [decide_eq_false (fun hc => h hc.1)]; rfl
theorem no_kind {n : Nd} (h : n.kind ≠ 0) : noTx n = false := by unfold noTx; rw [decide_eq_false h]; rfl
def TxP (n : Nd) (w : World) (e : Ending) (w' : World) : Prop := e = .returned (.tuple #[.string (txS n), .bool (txB n)]) ∧ Below w.heap.size w w'
end Go.Proofs.Ytfiiopchfmcjdaa
