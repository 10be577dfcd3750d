/- The specification's draws for the laws of words. -/
import Derived.Test.YtfiiopchfmcjdaaDraw2
import Derived.Test.YtfiiopchfmcjdaaDrawOne
import Derived.Test.YtfiiopchfmcjdaaArgB
namespace Go.Proofs.Ytfiiopchfmcjdaa
open Go.RowKit
def DrawStr (b : Nat) (w : World) (e : Ending) (w' : World) : Prop := ∃ s : ByteArray, s.size ≤ b ∧ e = .returned (.string s) ∧ Below w.heap.size w w'
def DrawG (w : World) (e : Ending) (w' : World) : Prop := ∃ (s : ByteArray) (a z : Int), s.size ≤ 1700 ∧ (-1 ≤ a ∧ a ≤ 2000) ∧ (1 ≤ z ∧ z ≤ 8) ∧ e = .returned (.tuple #[.string s, .int .i64 a, .int .i64 z]) ∧ Below w.heap.size w w'
def DrawP (w : World) (e : Ending) (w' : World) : Prop := ∃ (s : ByteArray) (a z n : Int), s.size ≤ 1700 ∧ (-1 ≤ a ∧ a ≤ 2000) ∧ (1 ≤ z ∧ z ≤ 8) ∧ (-1 ≤ n ∧ n ≤ 1099511627776) ∧ e = .returned (.tuple #[.string s, .int .i64 a, .int .i64 z, .int .i64 n]) ∧ Below w.heap.size w w'
def DrawB (w : World) (e : Ending) (w' : World) : Prop := ∃ (s : ByteArray) (a : Int), s.size ≤ 1700 ∧ (-1 ≤ a ∧ a ≤ 2000) ∧ e = .returned (.tuple #[.string s, .int .i64 a]) ∧ Below w.heap.size w w'
def DrawBP (w : World) (e : Ending) (w' : World) : Prop := ∃ (s : ByteArray) (a b : Int), s.size ≤ 1700 ∧ (-1 ≤ a ∧ a ≤ 2000) ∧ (0 ≤ b ∧ b ≤ 2) ∧ e = .returned (.tuple #[.string s, .int .i64 a, .int .i64 b]) ∧ Below w.heap.size w w'
end Go.Proofs.Ytfiiopchfmcjdaa
