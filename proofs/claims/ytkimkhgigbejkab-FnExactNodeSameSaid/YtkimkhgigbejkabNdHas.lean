/- Which parts a node has; how many words it takes by itself. -/
import Derived.Test.YtkimkhgigbejkabNdList
namespace Go.Proofs.Ytkimkhgigbejkab
open Go.RowKit
def noneN (n : Nd) : Bool := noneB n.data n.ptrs.length n.size n.count n.items.length
def strN (n : Nd) : Bool := structB n.kind n.data n.size n.count n.items.length
/-- a node has the parts of its kind. -/
def formN (n : Nd) : Bool := decide (n.kind = 0) && noneN n || (strN n || listN n)
abbrev boxN (n : Nd) (h : Hd) : Obj := .cells #[.int .i64 n.kind, .string n.data, .slice h.A n.ptrs.length h.a, .int .i64 n.size, .int .i64 n.count, .slice h.B n.items.length h.b] nodeT (0, 0)
end Go.Proofs.Ytkimkhgigbejkab
