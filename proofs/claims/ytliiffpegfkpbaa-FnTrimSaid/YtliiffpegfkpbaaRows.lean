/-
  No cell of these rows narrows 'for every input' (looked for: loops, veiled, ifaces, maps, wideKeys, modest, calm, conditions, laid).
  DERIVED. THE GIVEN ROWS OF THIS SEAT. 8 by the template 'for every input the law returns true; each argument reads behind the call as it read before'; 0 by the template 'total and deterministic' (their statements: YtliiffpegfkpbaaTotals.lean).
  GIVEN WITH THE SEED: the statements are not yours to turn. If you find one false, say at which input.
  Laid BY PROGRAM, IN A SANDBOX (cutbox-rows.mjs): the forced cells as the released guide's own fill.sh prints them over the translation bbfab49222e67e1b… (all of the seat's roots in one cut). By AI agents, Wed Nov 11 2026. No macro, syntax, notation, axiom, sorry.
-/
import Derived.Test.YtliiffpegfkpbaaChecked
import GoSem.Claim
import GoSem.ClaimJoined
import GoSem.ClaimMapViews
import Derived.JoinedTies
import Derived.KernelRfl
namespace Go.Proofs.Ytliiffpegfkpbaa
/- THE CELL 'sum', in the pinned program and in every row, IS THE sha256 OF THE DUMP (.gsa) THAT YtliiffpegfkpbaaProg.lean LOADS. Nothing in Lean hashes anything: it is a label: what it is worth is what the hold of that sum in a sandbox is worth. -/
noncomputable def Try.pinned : Pinned := { name := "ytliiffpegfkpbaa", sum := "bbfab49222e67e1bea43bc6356028f1d9043e8aab55c365b3b4e5127f596946e", checked := Try.checked }
namespace Rows
def none {H : Type} : Left H := { results := [], args := [] }

/-- 'laws.FnGet': WHATEVER THE INPUT: true; the input reads as it did. -/
def fnGetSpec : ChangeSpec := { name := "fnGet", fn := fun _ => fun
  | [d] => { results := [.lit (.bool true)], args := [d] }
  | _ => none }
def fnGetRow : OpenClaim := { program := "ytliiffpegfkpbaa", sum := "bbfab49222e67e1bea43bc6356028f1d9043e8aab55c365b3b4e5127f596946e", func := "loop.example/quoin/laws.FnGet", spec := "fnGet", apart := false }
def FnGetSaid : Prop := fnGetRow.holds Try.pinned (OpenSpec.ofChange fnGetSpec)

/-- ITS FALSE NEIGHBOUR: 'it returns false'. Refute it at one input. -/
def fnGetWrong : ChangeSpec := { name := "fnGet", fn := fun _ => fun
  | [d] => { results := [.lit (.bool false)], args := [d] }
  | _ => none }
def FnGetWrongFalsely : Prop := fnGetRow.holds Try.pinned (OpenSpec.ofChange fnGetWrong)

/-- 'laws.FnGetParts': WHATEVER THE INPUT: true; the input reads as it did. -/
def fnGetPartsSpec : ChangeSpec := { name := "fnGetParts", fn := fun _ => fun
  | [d] => { results := [.lit (.bool true)], args := [d] }
  | _ => none }
def fnGetPartsRow : OpenClaim := { program := "ytliiffpegfkpbaa", sum := "bbfab49222e67e1bea43bc6356028f1d9043e8aab55c365b3b4e5127f596946e", func := "loop.example/quoin/laws.FnGetParts", spec := "fnGetParts", apart := false }
def FnGetPartsSaid : Prop := fnGetPartsRow.holds Try.pinned (OpenSpec.ofChange fnGetPartsSpec)

/-- ITS FALSE NEIGHBOUR: 'it returns false'. Refute it at one input. -/
def fnGetPartsWrong : ChangeSpec := { name := "fnGetParts", fn := fun _ => fun
  | [d] => { results := [.lit (.bool false)], args := [d] }
  | _ => none }
def FnGetPartsWrongFalsely : Prop := fnGetPartsRow.holds Try.pinned (OpenSpec.ofChange fnGetPartsWrong)

/-- 'laws.FnBit': WHATEVER THE INPUT: true; the input reads as it did. -/
def fnBitSpec : ChangeSpec := { name := "fnBit", fn := fun _ => fun
  | [d] => { results := [.lit (.bool true)], args := [d] }
  | _ => none }
def fnBitRow : OpenClaim := { program := "ytliiffpegfkpbaa", sum := "bbfab49222e67e1bea43bc6356028f1d9043e8aab55c365b3b4e5127f596946e", func := "loop.example/quoin/laws.FnBit", spec := "fnBit", apart := false }
def FnBitSaid : Prop := fnBitRow.holds Try.pinned (OpenSpec.ofChange fnBitSpec)

/-- ITS FALSE NEIGHBOUR: 'it returns false'. Refute it at one input. -/
def fnBitWrong : ChangeSpec := { name := "fnBit", fn := fun _ => fun
  | [d] => { results := [.lit (.bool false)], args := [d] }
  | _ => none }
def FnBitWrongFalsely : Prop := fnBitRow.holds Try.pinned (OpenSpec.ofChange fnBitWrong)

/-- 'laws.FnTrim': WHATEVER THE INPUT: true; the input reads as it did. -/
def fnTrimSpec : ChangeSpec := { name := "fnTrim", fn := fun _ => fun
  | [d] => { results := [.lit (.bool true)], args := [d] }
  | _ => none }
def fnTrimRow : OpenClaim := { program := "ytliiffpegfkpbaa", sum := "bbfab49222e67e1bea43bc6356028f1d9043e8aab55c365b3b4e5127f596946e", func := "loop.example/quoin/laws.FnTrim", spec := "fnTrim", unfollowed := true, recurses := true, apart := false }
def FnTrimSaid : Prop := fnTrimRow.holds Try.pinned (OpenSpec.ofChange fnTrimSpec)

/-- ITS FALSE NEIGHBOUR: 'it returns false'. Refute it at one input. -/
def fnTrimWrong : ChangeSpec := { name := "fnTrim", fn := fun _ => fun
  | [d] => { results := [.lit (.bool false)], args := [d] }
  | _ => none }
def FnTrimWrongFalsely : Prop := fnTrimRow.holds Try.pinned (OpenSpec.ofChange fnTrimWrong)

/-- 'laws.FnPutTwo': WHATEVER THE INPUT: true; the input reads as it did. -/
def fnPutTwoSpec : ChangeSpec := { name := "fnPutTwo", fn := fun _ => fun
  | [d1, d2] => { results := [.lit (.bool true)], args := [d1, d2] }
  | _ => none }
def fnPutTwoRow : OpenClaim := { program := "ytliiffpegfkpbaa", sum := "bbfab49222e67e1bea43bc6356028f1d9043e8aab55c365b3b4e5127f596946e", func := "loop.example/quoin/laws.FnPutTwo", spec := "fnPutTwo", apart := false }
def FnPutTwoSaid : Prop := fnPutTwoRow.holds Try.pinned (OpenSpec.ofChange fnPutTwoSpec)

/-- ITS FALSE NEIGHBOUR: 'it returns false'. Refute it at one input. -/
def fnPutTwoWrong : ChangeSpec := { name := "fnPutTwo", fn := fun _ => fun
  | [d1, d2] => { results := [.lit (.bool false)], args := [d1, d2] }
  | _ => none }
def FnPutTwoWrongFalsely : Prop := fnPutTwoRow.holds Try.pinned (OpenSpec.ofChange fnPutTwoWrong)

/-- 'laws.FnFrameSize': WHATEVER THE INPUT: true; the input reads as it did. -/
def fnFrameSizeSpec : ChangeSpec := { name := "fnFrameSize", fn := fun _ => fun
  | [d] => { results := [.lit (.bool true)], args := [d] }
  | _ => none }
def fnFrameSizeRow : OpenClaim := { program := "ytliiffpegfkpbaa", sum := "bbfab49222e67e1bea43bc6356028f1d9043e8aab55c365b3b4e5127f596946e", func := "loop.example/quoin/laws.FnFrameSize", spec := "fnFrameSize", inPlace := ["internal/abi.NoEscape"], apart := false }
def FnFrameSizeSaid : Prop := fnFrameSizeRow.holds Try.pinned (OpenSpec.ofChange fnFrameSizeSpec)

/-- ITS FALSE NEIGHBOUR: 'it returns false'. Refute it at one input. -/
def fnFrameSizeWrong : ChangeSpec := { name := "fnFrameSize", fn := fun _ => fun
  | [d] => { results := [.lit (.bool false)], args := [d] }
  | _ => none }
def FnFrameSizeWrongFalsely : Prop := fnFrameSizeRow.holds Try.pinned (OpenSpec.ofChange fnFrameSizeWrong)

/-- 'laws.FnExactGet': WHATEVER THE INPUT: true; the input reads as it did. -/
def fnExactGetSpec : ChangeSpec := { name := "fnExactGet", fn := fun _ => fun
  | [d1, d2, d3] => { results := [.lit (.bool true)], args := [d1, d2, d3] }
  | _ => none }
def fnExactGetRow : OpenClaim := { program := "ytliiffpegfkpbaa", sum := "bbfab49222e67e1bea43bc6356028f1d9043e8aab55c365b3b4e5127f596946e", func := "loop.example/quoin/laws.FnExactGet", spec := "fnExactGet", apart := false }
def FnExactGetSaid : Prop := fnExactGetRow.holds Try.pinned (OpenSpec.ofChange fnExactGetSpec)

/-- ITS FALSE NEIGHBOUR: 'it returns false'. Refute it at one input. -/
def fnExactGetWrong : ChangeSpec := { name := "fnExactGet", fn := fun _ => fun
  | [d1, d2, d3] => { results := [.lit (.bool false)], args := [d1, d2, d3] }
  | _ => none }
def FnExactGetWrongFalsely : Prop := fnExactGetRow.holds Try.pinned (OpenSpec.ofChange fnExactGetWrong)

/-- 'laws.FnExactPut': WHATEVER THE INPUT: true; the input reads as it did. -/
def fnExactPutSpec : ChangeSpec := { name := "fnExactPut", fn := fun _ => fun
  | [d1, d2, d3, d4] => { results := [.lit (.bool true)], args := [d1, d2, d3, d4] }
  | _ => none }
def fnExactPutRow : OpenClaim := { program := "ytliiffpegfkpbaa", sum := "bbfab49222e67e1bea43bc6356028f1d9043e8aab55c365b3b4e5127f596946e", func := "loop.example/quoin/laws.FnExactPut", spec := "fnExactPut", apart := false }
def FnExactPutSaid : Prop := fnExactPutRow.holds Try.pinned (OpenSpec.ofChange fnExactPutSpec)

/-- ITS FALSE NEIGHBOUR: 'it returns false'. Refute it at one input. -/
def fnExactPutWrong : ChangeSpec := { name := "fnExactPut", fn := fun _ => fun
  | [d1, d2, d3, d4] => { results := [.lit (.bool false)], args := [d1, d2, d3, d4] }
  | _ => none }
def FnExactPutWrongFalsely : Prop := fnExactPutRow.holds Try.pinned (OpenSpec.ofChange fnExactPutWrong)

/- THE SECOND FORM. 'bulk': how many values and letters a reading holds, each counted each time it is reached (what is shared counts as often as it is met; a slice's spare places count too). A statement '..UptoSaid' is the law's where the arguments, and the package variables that the reading takes, are together of bulk at most 1048576: NARROWER than '..Said'. Prove '..Said' where nothing that the law and all that it calls make is longer than what came in: it says more and counts as full. Else prove '..UptoSaid'. A law counts once. -/
mutual
def uptoBulk {H : Type} : DataW H → Nat
  | .lit (.string bytes) => bytes.length + 1
  | .lit _ => 1
  | .nil => 1
  | .ptr d => uptoBulk d + 1
  | .slice elems spare => uptoBulkAll elems + uptoBulkAll spare + 1
  | .agg parts => uptoBulkAll parts + 1
  | .iface _ d => uptoBulk d + 1
  | .map entries => uptoBulkEntries entries + 1
  | .held _ => 1
def uptoBulkAll {H : Type} : List (DataW H) → Nat
  | [] => 0
  | d :: r => uptoBulk d + uptoBulkAll r
def uptoBulkEntries {H : Type} : List (Lit × DataW H) → Nat
  | [] => 0
  | x :: r => uptoBulkEntry x + uptoBulkEntries r
def uptoBulkEntry {H : Type} : Lit × DataW H → Nat
  | (.string bytes, d) => bytes.length + uptoBulk d + 1
  | (_, d) => uptoBulk d + 1
 end
def uptoSmall : (H : Type) → List (DataW H) → Bool := fun _ ds => decide (uptoBulkAll ds ≤ 1048576)
def OpenSpec.upto (s : _root_.Go.ChangeSpec) : _root_.Go.OpenSpec := { _root_.Go.OpenSpec.ofChange s with cond := some uptoSmall }

/-- 'laws.FnGet', WHERE WHAT IT READS IS OF BULK AT MOST 1048576: true; the input reads as it did. -/
def fnGetUptoRow : OpenClaim := { program := "ytliiffpegfkpbaa", sum := "bbfab49222e67e1bea43bc6356028f1d9043e8aab55c365b3b4e5127f596946e", func := "loop.example/quoin/laws.FnGet", spec := "fnGet", apart := false, narrowed := true }
def FnGetUptoSaid : Prop := fnGetUptoRow.holds Try.pinned (OpenSpec.upto fnGetSpec)

/-- 'laws.FnGetParts', WHERE WHAT IT READS IS OF BULK AT MOST 1048576: true; the input reads as it did. -/
def fnGetPartsUptoRow : OpenClaim := { program := "ytliiffpegfkpbaa", sum := "bbfab49222e67e1bea43bc6356028f1d9043e8aab55c365b3b4e5127f596946e", func := "loop.example/quoin/laws.FnGetParts", spec := "fnGetParts", apart := false, narrowed := true }
def FnGetPartsUptoSaid : Prop := fnGetPartsUptoRow.holds Try.pinned (OpenSpec.upto fnGetPartsSpec)

/-- 'laws.FnBit', WHERE WHAT IT READS IS OF BULK AT MOST 1048576: true; the input reads as it did. -/
def fnBitUptoRow : OpenClaim := { program := "ytliiffpegfkpbaa", sum := "bbfab49222e67e1bea43bc6356028f1d9043e8aab55c365b3b4e5127f596946e", func := "loop.example/quoin/laws.FnBit", spec := "fnBit", apart := false, narrowed := true }
def FnBitUptoSaid : Prop := fnBitUptoRow.holds Try.pinned (OpenSpec.upto fnBitSpec)

/-- 'laws.FnTrim', WHERE WHAT IT READS IS OF BULK AT MOST 1048576: true; the input reads as it did. -/
def fnTrimUptoRow : OpenClaim := { program := "ytliiffpegfkpbaa", sum := "bbfab49222e67e1bea43bc6356028f1d9043e8aab55c365b3b4e5127f596946e", func := "loop.example/quoin/laws.FnTrim", spec := "fnTrim", unfollowed := true, recurses := true, apart := false, narrowed := true }
def FnTrimUptoSaid : Prop := fnTrimUptoRow.holds Try.pinned (OpenSpec.upto fnTrimSpec)

/-- 'laws.FnPutTwo', WHERE WHAT IT READS IS OF BULK AT MOST 1048576: true; the input reads as it did. -/
def fnPutTwoUptoRow : OpenClaim := { program := "ytliiffpegfkpbaa", sum := "bbfab49222e67e1bea43bc6356028f1d9043e8aab55c365b3b4e5127f596946e", func := "loop.example/quoin/laws.FnPutTwo", spec := "fnPutTwo", apart := false, narrowed := true }
def FnPutTwoUptoSaid : Prop := fnPutTwoUptoRow.holds Try.pinned (OpenSpec.upto fnPutTwoSpec)

/-- 'laws.FnFrameSize', WHERE WHAT IT READS IS OF BULK AT MOST 1048576: true; the input reads as it did. -/
def fnFrameSizeUptoRow : OpenClaim := { program := "ytliiffpegfkpbaa", sum := "bbfab49222e67e1bea43bc6356028f1d9043e8aab55c365b3b4e5127f596946e", func := "loop.example/quoin/laws.FnFrameSize", spec := "fnFrameSize", inPlace := ["internal/abi.NoEscape"], apart := false, narrowed := true }
def FnFrameSizeUptoSaid : Prop := fnFrameSizeUptoRow.holds Try.pinned (OpenSpec.upto fnFrameSizeSpec)

/-- 'laws.FnExactGet', WHERE WHAT IT READS IS OF BULK AT MOST 1048576: true; the input reads as it did. -/
def fnExactGetUptoRow : OpenClaim := { program := "ytliiffpegfkpbaa", sum := "bbfab49222e67e1bea43bc6356028f1d9043e8aab55c365b3b4e5127f596946e", func := "loop.example/quoin/laws.FnExactGet", spec := "fnExactGet", apart := false, narrowed := true }
def FnExactGetUptoSaid : Prop := fnExactGetUptoRow.holds Try.pinned (OpenSpec.upto fnExactGetSpec)

/-- 'laws.FnExactPut', WHERE WHAT IT READS IS OF BULK AT MOST 1048576: true; the input reads as it did. -/
def fnExactPutUptoRow : OpenClaim := { program := "ytliiffpegfkpbaa", sum := "bbfab49222e67e1bea43bc6356028f1d9043e8aab55c365b3b4e5127f596946e", func := "loop.example/quoin/laws.FnExactPut", spec := "fnExactPut", apart := false, narrowed := true }
def FnExactPutUptoSaid : Prop := fnExactPutUptoRow.holds Try.pinned (OpenSpec.upto fnExactPutSpec)

end Rows
end Go.Proofs.Ytliiffpegfkpbaa
