/-
  NARROWER THAN 'FOR EVERY INPUT', by the rows' own cells (each row's printed sentence says how): FnExactNodeSame: loops.
  DERIVED. THE GIVEN ROWS OF THIS SEAT. 6 by the template 'for every input the law returns true; each argument reads behind the call as it read before'; 0 by the template 'total and deterministic' (their statements: YtabipkpgmlmkcaaTotals.lean).
  GIVEN WITH THE SEED: the statements are not yours to turn. If you find one false, say at which input.
  Laid BY PROGRAM, IN A SANDBOX (cutbox-rows.mjs): the forced cells as the released guide's own fill.sh prints them over the translation f8c2ee94649fb300… (all of the seat's roots in one cut). By AI agents, Wed Nov 11 2026. No macro, syntax, notation, axiom, sorry.
-/
import Derived.Test.YtabipkpgmlmkcaaChecked
import GoSem.Claim
import GoSem.ClaimJoined
import GoSem.ClaimMapViews
import Derived.JoinedTies
import Derived.KernelRfl
namespace Go.Proofs.Ytabipkpgmlmkcaa
/- THE CELL 'sum', in the pinned program and in every row, IS THE sha256 OF THE DUMP (.gsa) THAT YtabipkpgmlmkcaaProg.lean LOADS. Nothing in Lean hashes anything: it is a label: what it is worth is what the hold of that sum in a sandbox is worth. -/
noncomputable def Try.pinned : Pinned := { name := "ytabipkpgmlmkcaa", sum := "f8c2ee94649fb3005184acc77bf62733ec9b4553003c22a34f44f5c7d149e53a", checked := Try.checked }
namespace Rows
def none {H : Type} : Left H := { results := [], args := [] }

/-- 'laws.FnNodeOk': WHATEVER THE INPUT: true; the input reads as it did. -/
def fnNodeOkSpec : ChangeSpec := { name := "fnNodeOk", fn := fun _ => fun
  | [d] => { results := [.lit (.bool true)], args := [d] }
  | _ => none }
def fnNodeOkRow : OpenClaim := { program := "ytabipkpgmlmkcaa", sum := "f8c2ee94649fb3005184acc77bf62733ec9b4553003c22a34f44f5c7d149e53a", func := "loop.example/quoin/laws.FnNodeOk", spec := "fnNodeOk", recurses := true, plainKeys := false, apart := false }
def FnNodeOkSaid : Prop := fnNodeOkRow.holds Try.pinned (OpenSpec.ofChange fnNodeOkSpec)

/-- ITS FALSE NEIGHBOUR: 'it returns false'. Refute it at one input. -/
def fnNodeOkWrong : ChangeSpec := { name := "fnNodeOk", fn := fun _ => fun
  | [d] => { results := [.lit (.bool false)], args := [d] }
  | _ => none }
def FnNodeOkWrongFalsely : Prop := fnNodeOkRow.holds Try.pinned (OpenSpec.ofChange fnNodeOkWrong)

/-- 'laws.FnReadCost': WHATEVER THE INPUT: true; the input reads as it did. -/
def fnReadCostSpec : ChangeSpec := { name := "fnReadCost", fn := fun _ => fun
  | [d] => { results := [.lit (.bool true)], args := [d] }
  | _ => none }
def fnReadCostRow : OpenClaim := { program := "ytabipkpgmlmkcaa", sum := "f8c2ee94649fb3005184acc77bf62733ec9b4553003c22a34f44f5c7d149e53a", func := "loop.example/quoin/laws.FnReadCost", spec := "fnReadCost", recurses := true, plainKeys := false, apart := false }
def FnReadCostSaid : Prop := fnReadCostRow.holds Try.pinned (OpenSpec.ofChange fnReadCostSpec)

/-- ITS FALSE NEIGHBOUR: 'it returns false'. Refute it at one input. -/
def fnReadCostWrong : ChangeSpec := { name := "fnReadCost", fn := fun _ => fun
  | [d] => { results := [.lit (.bool false)], args := [d] }
  | _ => none }
def FnReadCostWrongFalsely : Prop := fnReadCostRow.holds Try.pinned (OpenSpec.ofChange fnReadCostWrong)

/-- 'laws.FnNodeSame': WHATEVER THE INPUT: true; the input reads as it did. -/
def fnNodeSameSpec : ChangeSpec := { name := "fnNodeSame", fn := fun _ => fun
  | [d] => { results := [.lit (.bool true)], args := [d] }
  | _ => none }
def fnNodeSameRow : OpenClaim := { program := "ytabipkpgmlmkcaa", sum := "f8c2ee94649fb3005184acc77bf62733ec9b4553003c22a34f44f5c7d149e53a", func := "loop.example/quoin/laws.FnNodeSame", spec := "fnNodeSame", recurses := true, plainKeys := false, apart := false }
def FnNodeSameSaid : Prop := fnNodeSameRow.holds Try.pinned (OpenSpec.ofChange fnNodeSameSpec)

/-- ITS FALSE NEIGHBOUR: 'it returns false'. Refute it at one input. -/
def fnNodeSameWrong : ChangeSpec := { name := "fnNodeSame", fn := fun _ => fun
  | [d] => { results := [.lit (.bool false)], args := [d] }
  | _ => none }
def FnNodeSameWrongFalsely : Prop := fnNodeSameRow.holds Try.pinned (OpenSpec.ofChange fnNodeSameWrong)

/-- 'laws.FnExactNodeSame': WHATEVER THE INPUT: true; the input reads as it did. -/
def fnExactNodeSameSpec : ChangeSpec := { name := "fnExactNodeSame", fn := fun _ => fun
  | [d1, d2] => { results := [.lit (.bool true)], args := [d1, d2] }
  | _ => none }
def fnExactNodeSameRow : OpenClaim := { program := "ytabipkpgmlmkcaa", sum := "f8c2ee94649fb3005184acc77bf62733ec9b4553003c22a34f44f5c7d149e53a", func := "loop.example/quoin/laws.FnExactNodeSame", spec := "fnExactNodeSame", recurses := true, loops := true, plainKeys := false, apart := false }
def FnExactNodeSameSaid : Prop := fnExactNodeSameRow.holds Try.pinned (OpenSpec.ofChange fnExactNodeSameSpec)

/-- ITS FALSE NEIGHBOUR: 'it returns false'. Refute it at one input. -/
def fnExactNodeSameWrong : ChangeSpec := { name := "fnExactNodeSame", fn := fun _ => fun
  | [d1, d2] => { results := [.lit (.bool false)], args := [d1, d2] }
  | _ => none }
def FnExactNodeSameWrongFalsely : Prop := fnExactNodeSameRow.holds Try.pinned (OpenSpec.ofChange fnExactNodeSameWrong)

/-- 'laws.FnExactTextNode': WHATEVER THE INPUT: true; the input reads as it did. -/
def fnExactTextNodeSpec : ChangeSpec := { name := "fnExactTextNode", fn := fun _ => fun
  | [d] => { results := [.lit (.bool true)], args := [d] }
  | _ => none }
def fnExactTextNodeRow : OpenClaim := { program := "ytabipkpgmlmkcaa", sum := "f8c2ee94649fb3005184acc77bf62733ec9b4553003c22a34f44f5c7d149e53a", func := "loop.example/quoin/laws.FnExactTextNode", spec := "fnExactTextNode", inPlace := ["internal/bytealg.IndexByteString", "internal/bytealg.IndexString"], recurses := true, named := ["internal/bytealg.MaxLen"], plainKeys := false, apart := false }
def FnExactTextNodeSaid : Prop := fnExactTextNodeRow.holds Try.pinned (OpenSpec.ofChange fnExactTextNodeSpec)

/-- ITS FALSE NEIGHBOUR: 'it returns false'. Refute it at one input. -/
def fnExactTextNodeWrong : ChangeSpec := { name := "fnExactTextNode", fn := fun _ => fun
  | [d] => { results := [.lit (.bool false)], args := [d] }
  | _ => none }
def FnExactTextNodeWrongFalsely : Prop := fnExactTextNodeRow.holds Try.pinned (OpenSpec.ofChange fnExactTextNodeWrong)

/-- 'laws.FnText': WHATEVER THE INPUT: true; the input reads as it did. -/
def fnTextSpec : ChangeSpec := { name := "fnText", fn := fun _ => fun
  | [d1, d2] => { results := [.lit (.bool true)], args := [d1, d2] }
  | _ => none }
def fnTextRow : OpenClaim := { program := "ytabipkpgmlmkcaa", sum := "f8c2ee94649fb3005184acc77bf62733ec9b4553003c22a34f44f5c7d149e53a", func := "loop.example/quoin/laws.FnText", spec := "fnText", inPlace := ["internal/bytealg.IndexByteString", "internal/bytealg.IndexString"], recurses := true, named := ["internal/bytealg.MaxLen"], plainKeys := false, apart := false }
def FnTextSaid : Prop := fnTextRow.holds Try.pinned (OpenSpec.ofChange fnTextSpec)

/-- ITS FALSE NEIGHBOUR: 'it returns false'. Refute it at one input. -/
def fnTextWrong : ChangeSpec := { name := "fnText", fn := fun _ => fun
  | [d1, d2] => { results := [.lit (.bool false)], args := [d1, d2] }
  | _ => none }
def FnTextWrongFalsely : Prop := fnTextRow.holds Try.pinned (OpenSpec.ofChange fnTextWrong)

/- THE SECOND FORM. 'bulk': how many values and letters a reading holds, each counted each time it is reached (what is shared counts as often as it is met; a slice's spare places count too). A statement '..UptoSaid' is the law's where the arguments, and the package variables that the reading takes, are together of bulk at most 1048576: NARROWER than '..Said'. Prove '..Said' where nothing that the law and all that it calls make is longer than what came in: it says more and counts as full. Else prove '..UptoSaid'. A law counts once. -/
mutual
def uptoBulk {H : Type} : DataW H → Nat
  | .lit (.string bytes) => bytes.length + 1
  | .lit _ => 1
  | .nil => 1
  | .ptr d => uptoBulk d + 1
  | .slice elems spare => uptoBulkAll elems + uptoBulkAll spare + 1
  | .agg parts => uptoBulkAll parts + 1
  | .iface _ d => uptoBulk d + 1
  | .map entries => uptoBulkEntries entries + 1
  | .held _ => 1
def uptoBulkAll {H : Type} : List (DataW H) → Nat
  | [] => 0
  | d :: r => uptoBulk d + uptoBulkAll r
def uptoBulkEntries {H : Type} : List (Lit × DataW H) → Nat
  | [] => 0
  | x :: r => uptoBulkEntry x + uptoBulkEntries r
def uptoBulkEntry {H : Type} : Lit × DataW H → Nat
  | (.string bytes, d) => bytes.length + uptoBulk d + 1
  | (_, d) => uptoBulk d + 1
 end
def uptoSmall : (H : Type) → List (DataW H) → Bool := fun _ ds => decide (uptoBulkAll ds ≤ 1048576)
def OpenSpec.upto (s : _root_.Go.ChangeSpec) : _root_.Go.OpenSpec := { _root_.Go.OpenSpec.ofChange s with cond := some uptoSmall }

/-- 'laws.FnNodeOk', WHERE WHAT IT READS IS OF BULK AT MOST 1048576: true; the input reads as it did. -/
def fnNodeOkUptoRow : OpenClaim := { program := "ytabipkpgmlmkcaa", sum := "f8c2ee94649fb3005184acc77bf62733ec9b4553003c22a34f44f5c7d149e53a", func := "loop.example/quoin/laws.FnNodeOk", spec := "fnNodeOk", recurses := true, plainKeys := false, apart := false, narrowed := true }
def FnNodeOkUptoSaid : Prop := fnNodeOkUptoRow.holds Try.pinned (OpenSpec.upto fnNodeOkSpec)

/-- 'laws.FnReadCost', WHERE WHAT IT READS IS OF BULK AT MOST 1048576: true; the input reads as it did. -/
def fnReadCostUptoRow : OpenClaim := { program := "ytabipkpgmlmkcaa", sum := "f8c2ee94649fb3005184acc77bf62733ec9b4553003c22a34f44f5c7d149e53a", func := "loop.example/quoin/laws.FnReadCost", spec := "fnReadCost", recurses := true, plainKeys := false, apart := false, narrowed := true }
def FnReadCostUptoSaid : Prop := fnReadCostUptoRow.holds Try.pinned (OpenSpec.upto fnReadCostSpec)

/-- 'laws.FnNodeSame', WHERE WHAT IT READS IS OF BULK AT MOST 1048576: true; the input reads as it did. -/
def fnNodeSameUptoRow : OpenClaim := { program := "ytabipkpgmlmkcaa", sum := "f8c2ee94649fb3005184acc77bf62733ec9b4553003c22a34f44f5c7d149e53a", func := "loop.example/quoin/laws.FnNodeSame", spec := "fnNodeSame", recurses := true, plainKeys := false, apart := false, narrowed := true }
def FnNodeSameUptoSaid : Prop := fnNodeSameUptoRow.holds Try.pinned (OpenSpec.upto fnNodeSameSpec)

/-- 'laws.FnExactNodeSame', WHERE WHAT IT READS IS OF BULK AT MOST 1048576: true; the input reads as it did. -/
def fnExactNodeSameUptoRow : OpenClaim := { program := "ytabipkpgmlmkcaa", sum := "f8c2ee94649fb3005184acc77bf62733ec9b4553003c22a34f44f5c7d149e53a", func := "loop.example/quoin/laws.FnExactNodeSame", spec := "fnExactNodeSame", recurses := true, loops := true, plainKeys := false, apart := false, narrowed := true }
def FnExactNodeSameUptoSaid : Prop := fnExactNodeSameUptoRow.holds Try.pinned (OpenSpec.upto fnExactNodeSameSpec)

/-- 'laws.FnExactTextNode', WHERE WHAT IT READS IS OF BULK AT MOST 1048576: true; the input reads as it did. -/
def fnExactTextNodeUptoRow : OpenClaim := { program := "ytabipkpgmlmkcaa", sum := "f8c2ee94649fb3005184acc77bf62733ec9b4553003c22a34f44f5c7d149e53a", func := "loop.example/quoin/laws.FnExactTextNode", spec := "fnExactTextNode", inPlace := ["internal/bytealg.IndexByteString", "internal/bytealg.IndexString"], recurses := true, named := ["internal/bytealg.MaxLen"], plainKeys := false, apart := false, narrowed := true }
def FnExactTextNodeUptoSaid : Prop := fnExactTextNodeUptoRow.holds Try.pinned (OpenSpec.upto fnExactTextNodeSpec)

/-- 'laws.FnText', WHERE WHAT IT READS IS OF BULK AT MOST 1048576: true; the input reads as it did. -/
def fnTextUptoRow : OpenClaim := { program := "ytabipkpgmlmkcaa", sum := "f8c2ee94649fb3005184acc77bf62733ec9b4553003c22a34f44f5c7d149e53a", func := "loop.example/quoin/laws.FnText", spec := "fnText", inPlace := ["internal/bytealg.IndexByteString", "internal/bytealg.IndexString"], recurses := true, named := ["internal/bytealg.MaxLen"], plainKeys := false, apart := false, narrowed := true }
def FnTextUptoSaid : Prop := fnTextUptoRow.holds Try.pinned (OpenSpec.upto fnTextSpec)

end Rows
end Go.Proofs.Ytabipkpgmlmkcaa
