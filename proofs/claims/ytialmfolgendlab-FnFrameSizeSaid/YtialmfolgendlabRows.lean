/-
  No cell of these rows narrows 'for every input' (looked for: loops, veiled, ifaces, maps, wideKeys, modest, calm, conditions, laid).
  DERIVED. THE GIVEN ROWS OF THIS SEAT. 9 by the template 'for every input the law returns true; each argument reads behind the call as it read before'; 0 by the template 'total and deterministic' (their statements: YtialmfolgendlabTotals.lean).
  GIVEN WITH THE SEED: the statements are not yours to turn. If you find one false, say at which input.
  Laid BY PROGRAM, IN A SANDBOX (cutbox-rows.mjs): the forced cells as the released guide's own fill.sh prints them over the translation ae6986f3ed906259… (all of the seat's roots in one cut). By AI agents, Wed Nov 11 2026. No macro, syntax, notation, axiom, sorry.
-/
import Derived.Test.YtialmfolgendlabChecked
import GoSem.Claim
import GoSem.ClaimJoined
import GoSem.ClaimMapViews
import Derived.JoinedTies
import Derived.KernelRfl
namespace Go.Proofs.Ytialmfolgendlab
/- THE CELL 'sum', in the pinned program and in every row, IS THE sha256 OF THE DUMP (.gsa) THAT YtialmfolgendlabProg.lean LOADS. Nothing in Lean hashes anything: it is a label: what it is worth is what the hold of that sum in a sandbox is worth. -/
noncomputable def Try.pinned : Pinned := { name := "ytialmfolgendlab", sum := "ae6986f3ed906259b1c81f2ea17fb64e2dc5ade6aa3e7fa777d3a62407c4445a", checked := Try.checked }
namespace Rows
def none {H : Type} : Left H := { results := [], args := [] }

/-- 'laws.FnPoint': WHATEVER THE INPUT: true; the input reads as it did. -/
def fnPointSpec : ChangeSpec := { name := "fnPoint", fn := fun _ => fun
  | [d1, d2] => { results := [.lit (.bool true)], args := [d1, d2] }
  | _ => none }
def fnPointRow : OpenClaim := { program := "ytialmfolgendlab", sum := "ae6986f3ed906259b1c81f2ea17fb64e2dc5ade6aa3e7fa777d3a62407c4445a", func := "loop.example/quoin/laws.FnPoint", spec := "fnPoint", unfollowed := true, recurses := true, apart := false }
def FnPointSaid : Prop := fnPointRow.holds Try.pinned (OpenSpec.ofChange fnPointSpec)

/-- ITS FALSE NEIGHBOUR: 'it returns false'. Refute it at one input. -/
def fnPointWrong : ChangeSpec := { name := "fnPoint", fn := fun _ => fun
  | [d1, d2] => { results := [.lit (.bool false)], args := [d1, d2] }
  | _ => none }
def FnPointWrongFalsely : Prop := fnPointRow.holds Try.pinned (OpenSpec.ofChange fnPointWrong)

/-- 'laws.FnListWords': WHATEVER THE INPUT: true; the input reads as it did. -/
def fnListWordsSpec : ChangeSpec := { name := "fnListWords", fn := fun _ => fun
  | [d] => { results := [.lit (.bool true)], args := [d] }
  | _ => none }
def fnListWordsRow : OpenClaim := { program := "ytialmfolgendlab", sum := "ae6986f3ed906259b1c81f2ea17fb64e2dc5ade6aa3e7fa777d3a62407c4445a", func := "loop.example/quoin/laws.FnListWords", spec := "fnListWords", apart := false }
def FnListWordsSaid : Prop := fnListWordsRow.holds Try.pinned (OpenSpec.ofChange fnListWordsSpec)

/-- ITS FALSE NEIGHBOUR: 'it returns false'. Refute it at one input. -/
def fnListWordsWrong : ChangeSpec := { name := "fnListWords", fn := fun _ => fun
  | [d] => { results := [.lit (.bool false)], args := [d] }
  | _ => none }
def FnListWordsWrongFalsely : Prop := fnListWordsRow.holds Try.pinned (OpenSpec.ofChange fnListWordsWrong)

/-- 'laws.FnFrameSize': WHATEVER THE INPUT: true; the input reads as it did. -/
def fnFrameSizeSpec : ChangeSpec := { name := "fnFrameSize", fn := fun _ => fun
  | [d] => { results := [.lit (.bool true)], args := [d] }
  | _ => none }
def fnFrameSizeRow : OpenClaim := { program := "ytialmfolgendlab", sum := "ae6986f3ed906259b1c81f2ea17fb64e2dc5ade6aa3e7fa777d3a62407c4445a", func := "loop.example/quoin/laws.FnFrameSize", spec := "fnFrameSize", inPlace := ["internal/abi.NoEscape"], apart := false }
def FnFrameSizeSaid : Prop := fnFrameSizeRow.holds Try.pinned (OpenSpec.ofChange fnFrameSizeSpec)

/-- ITS FALSE NEIGHBOUR: 'it returns false'. Refute it at one input. -/
def fnFrameSizeWrong : ChangeSpec := { name := "fnFrameSize", fn := fun _ => fun
  | [d] => { results := [.lit (.bool false)], args := [d] }
  | _ => none }
def FnFrameSizeWrongFalsely : Prop := fnFrameSizeRow.holds Try.pinned (OpenSpec.ofChange fnFrameSizeWrong)

/-- 'laws.FnExactPointOk': WHATEVER THE INPUT: true; the input reads as it did. -/
def fnExactPointOkSpec : ChangeSpec := { name := "fnExactPointOk", fn := fun _ => fun
  | [d] => { results := [.lit (.bool true)], args := [d] }
  | _ => none }
def fnExactPointOkRow : OpenClaim := { program := "ytialmfolgendlab", sum := "ae6986f3ed906259b1c81f2ea17fb64e2dc5ade6aa3e7fa777d3a62407c4445a", func := "loop.example/quoin/laws.FnExactPointOk", spec := "fnExactPointOk", unfollowed := true, recurses := true, apart := false }
def FnExactPointOkSaid : Prop := fnExactPointOkRow.holds Try.pinned (OpenSpec.ofChange fnExactPointOkSpec)

/-- ITS FALSE NEIGHBOUR: 'it returns false'. Refute it at one input. -/
def fnExactPointOkWrong : ChangeSpec := { name := "fnExactPointOk", fn := fun _ => fun
  | [d] => { results := [.lit (.bool false)], args := [d] }
  | _ => none }
def FnExactPointOkWrongFalsely : Prop := fnExactPointOkRow.holds Try.pinned (OpenSpec.ofChange fnExactPointOkWrong)

/-- 'laws.FnExactPointPut': WHATEVER THE INPUT: true; the input reads as it did. -/
def fnExactPointPutSpec : ChangeSpec := { name := "fnExactPointPut", fn := fun _ => fun
  | [d] => { results := [.lit (.bool true)], args := [d] }
  | _ => none }
def fnExactPointPutRow : OpenClaim := { program := "ytialmfolgendlab", sum := "ae6986f3ed906259b1c81f2ea17fb64e2dc5ade6aa3e7fa777d3a62407c4445a", func := "loop.example/quoin/laws.FnExactPointPut", spec := "fnExactPointPut", unfollowed := true, recurses := true, apart := false }
def FnExactPointPutSaid : Prop := fnExactPointPutRow.holds Try.pinned (OpenSpec.ofChange fnExactPointPutSpec)

/-- ITS FALSE NEIGHBOUR: 'it returns false'. Refute it at one input. -/
def fnExactPointPutWrong : ChangeSpec := { name := "fnExactPointPut", fn := fun _ => fun
  | [d] => { results := [.lit (.bool false)], args := [d] }
  | _ => none }
def FnExactPointPutWrongFalsely : Prop := fnExactPointPutRow.holds Try.pinned (OpenSpec.ofChange fnExactPointPutWrong)

/-- 'laws.FnExactPointGet': WHATEVER THE INPUT: true; the input reads as it did. -/
def fnExactPointGetSpec : ChangeSpec := { name := "fnExactPointGet", fn := fun _ => fun
  | [d] => { results := [.lit (.bool true)], args := [d] }
  | _ => none }
def fnExactPointGetRow : OpenClaim := { program := "ytialmfolgendlab", sum := "ae6986f3ed906259b1c81f2ea17fb64e2dc5ade6aa3e7fa777d3a62407c4445a", func := "loop.example/quoin/laws.FnExactPointGet", spec := "fnExactPointGet", apart := false }
def FnExactPointGetSaid : Prop := fnExactPointGetRow.holds Try.pinned (OpenSpec.ofChange fnExactPointGetSpec)

/-- ITS FALSE NEIGHBOUR: 'it returns false'. Refute it at one input. -/
def fnExactPointGetWrong : ChangeSpec := { name := "fnExactPointGet", fn := fun _ => fun
  | [d] => { results := [.lit (.bool false)], args := [d] }
  | _ => none }
def FnExactPointGetWrongFalsely : Prop := fnExactPointGetRow.holds Try.pinned (OpenSpec.ofChange fnExactPointGetWrong)

/-- 'laws.FnExactListWords': WHATEVER THE INPUT: true; the input reads as it did. -/
def fnExactListWordsSpec : ChangeSpec := { name := "fnExactListWords", fn := fun _ => fun
  | [d1, d2] => { results := [.lit (.bool true)], args := [d1, d2] }
  | _ => none }
def fnExactListWordsRow : OpenClaim := { program := "ytialmfolgendlab", sum := "ae6986f3ed906259b1c81f2ea17fb64e2dc5ade6aa3e7fa777d3a62407c4445a", func := "loop.example/quoin/laws.FnExactListWords", spec := "fnExactListWords", apart := false }
def FnExactListWordsSaid : Prop := fnExactListWordsRow.holds Try.pinned (OpenSpec.ofChange fnExactListWordsSpec)

/-- ITS FALSE NEIGHBOUR: 'it returns false'. Refute it at one input. -/
def fnExactListWordsWrong : ChangeSpec := { name := "fnExactListWords", fn := fun _ => fun
  | [d1, d2] => { results := [.lit (.bool false)], args := [d1, d2] }
  | _ => none }
def FnExactListWordsWrongFalsely : Prop := fnExactListWordsRow.holds Try.pinned (OpenSpec.ofChange fnExactListWordsWrong)

/-- 'laws.FnExactFrameOk': WHATEVER THE INPUT: true; the input reads as it did. -/
def fnExactFrameOkSpec : ChangeSpec := { name := "fnExactFrameOk", fn := fun _ => fun
  | [d] => { results := [.lit (.bool true)], args := [d] }
  | _ => none }
def fnExactFrameOkRow : OpenClaim := { program := "ytialmfolgendlab", sum := "ae6986f3ed906259b1c81f2ea17fb64e2dc5ade6aa3e7fa777d3a62407c4445a", func := "loop.example/quoin/laws.FnExactFrameOk", spec := "fnExactFrameOk", apart := false }
def FnExactFrameOkSaid : Prop := fnExactFrameOkRow.holds Try.pinned (OpenSpec.ofChange fnExactFrameOkSpec)

/-- ITS FALSE NEIGHBOUR: 'it returns false'. Refute it at one input. -/
def fnExactFrameOkWrong : ChangeSpec := { name := "fnExactFrameOk", fn := fun _ => fun
  | [d] => { results := [.lit (.bool false)], args := [d] }
  | _ => none }
def FnExactFrameOkWrongFalsely : Prop := fnExactFrameOkRow.holds Try.pinned (OpenSpec.ofChange fnExactFrameOkWrong)

/-- 'laws.FnExactFramePut': WHATEVER THE INPUT: true; the input reads as it did. -/
def fnExactFramePutSpec : ChangeSpec := { name := "fnExactFramePut", fn := fun _ => fun
  | [d] => { results := [.lit (.bool true)], args := [d] }
  | _ => none }
def fnExactFramePutRow : OpenClaim := { program := "ytialmfolgendlab", sum := "ae6986f3ed906259b1c81f2ea17fb64e2dc5ade6aa3e7fa777d3a62407c4445a", func := "loop.example/quoin/laws.FnExactFramePut", spec := "fnExactFramePut", inPlace := ["internal/abi.NoEscape"], apart := false }
def FnExactFramePutSaid : Prop := fnExactFramePutRow.holds Try.pinned (OpenSpec.ofChange fnExactFramePutSpec)

/-- ITS FALSE NEIGHBOUR: 'it returns false'. Refute it at one input. -/
def fnExactFramePutWrong : ChangeSpec := { name := "fnExactFramePut", fn := fun _ => fun
  | [d] => { results := [.lit (.bool false)], args := [d] }
  | _ => none }
def FnExactFramePutWrongFalsely : Prop := fnExactFramePutRow.holds Try.pinned (OpenSpec.ofChange fnExactFramePutWrong)

/- THE SECOND FORM. 'bulk': how many values and letters a reading holds, each counted each time it is reached (what is shared counts as often as it is met; a slice's spare places count too). A statement '..UptoSaid' is the law's where the arguments, and the package variables that the reading takes, are together of bulk at most 1048576: NARROWER than '..Said'. Prove '..Said' where nothing that the law and all that it calls make is longer than what came in: it says more and counts as full. Else prove '..UptoSaid'. A law counts once. -/
mutual
def uptoBulk {H : Type} : DataW H → Nat
  | .lit (.string bytes) => bytes.length + 1
  | .lit _ => 1
  | .nil => 1
  | .ptr d => uptoBulk d + 1
  | .slice elems spare => uptoBulkAll elems + uptoBulkAll spare + 1
  | .agg parts => uptoBulkAll parts + 1
  | .iface _ d => uptoBulk d + 1
  | .map entries => uptoBulkEntries entries + 1
  | .held _ => 1
def uptoBulkAll {H : Type} : List (DataW H) → Nat
  | [] => 0
  | d :: r => uptoBulk d + uptoBulkAll r
def uptoBulkEntries {H : Type} : List (Lit × DataW H) → Nat
  | [] => 0
  | x :: r => uptoBulkEntry x + uptoBulkEntries r
def uptoBulkEntry {H : Type} : Lit × DataW H → Nat
  | (.string bytes, d) => bytes.length + uptoBulk d + 1
  | (_, d) => uptoBulk d + 1
 end
def uptoSmall : (H : Type) → List (DataW H) → Bool := fun _ ds => decide (uptoBulkAll ds ≤ 1048576)
def OpenSpec.upto (s : _root_.Go.ChangeSpec) : _root_.Go.OpenSpec := { _root_.Go.OpenSpec.ofChange s with cond := some uptoSmall }

/-- 'laws.FnPoint', WHERE WHAT IT READS IS OF BULK AT MOST 1048576: true; the input reads as it did. -/
def fnPointUptoRow : OpenClaim := { program := "ytialmfolgendlab", sum := "ae6986f3ed906259b1c81f2ea17fb64e2dc5ade6aa3e7fa777d3a62407c4445a", func := "loop.example/quoin/laws.FnPoint", spec := "fnPoint", unfollowed := true, recurses := true, apart := false, narrowed := true }
def FnPointUptoSaid : Prop := fnPointUptoRow.holds Try.pinned (OpenSpec.upto fnPointSpec)

/-- 'laws.FnListWords', WHERE WHAT IT READS IS OF BULK AT MOST 1048576: true; the input reads as it did. -/
def fnListWordsUptoRow : OpenClaim := { program := "ytialmfolgendlab", sum := "ae6986f3ed906259b1c81f2ea17fb64e2dc5ade6aa3e7fa777d3a62407c4445a", func := "loop.example/quoin/laws.FnListWords", spec := "fnListWords", apart := false, narrowed := true }
def FnListWordsUptoSaid : Prop := fnListWordsUptoRow.holds Try.pinned (OpenSpec.upto fnListWordsSpec)

/-- 'laws.FnFrameSize', WHERE WHAT IT READS IS OF BULK AT MOST 1048576: true; the input reads as it did. -/
def fnFrameSizeUptoRow : OpenClaim := { program := "ytialmfolgendlab", sum := "ae6986f3ed906259b1c81f2ea17fb64e2dc5ade6aa3e7fa777d3a62407c4445a", func := "loop.example/quoin/laws.FnFrameSize", spec := "fnFrameSize", inPlace := ["internal/abi.NoEscape"], apart := false, narrowed := true }
def FnFrameSizeUptoSaid : Prop := fnFrameSizeUptoRow.holds Try.pinned (OpenSpec.upto fnFrameSizeSpec)

/-- 'laws.FnExactPointOk', WHERE WHAT IT READS IS OF BULK AT MOST 1048576: true; the input reads as it did. -/
def fnExactPointOkUptoRow : OpenClaim := { program := "ytialmfolgendlab", sum := "ae6986f3ed906259b1c81f2ea17fb64e2dc5ade6aa3e7fa777d3a62407c4445a", func := "loop.example/quoin/laws.FnExactPointOk", spec := "fnExactPointOk", unfollowed := true, recurses := true, apart := false, narrowed := true }
def FnExactPointOkUptoSaid : Prop := fnExactPointOkUptoRow.holds Try.pinned (OpenSpec.upto fnExactPointOkSpec)

/-- 'laws.FnExactPointPut', WHERE WHAT IT READS IS OF BULK AT MOST 1048576: true; the input reads as it did. -/
def fnExactPointPutUptoRow : OpenClaim := { program := "ytialmfolgendlab", sum := "ae6986f3ed906259b1c81f2ea17fb64e2dc5ade6aa3e7fa777d3a62407c4445a", func := "loop.example/quoin/laws.FnExactPointPut", spec := "fnExactPointPut", unfollowed := true, recurses := true, apart := false, narrowed := true }
def FnExactPointPutUptoSaid : Prop := fnExactPointPutUptoRow.holds Try.pinned (OpenSpec.upto fnExactPointPutSpec)

/-- 'laws.FnExactPointGet', WHERE WHAT IT READS IS OF BULK AT MOST 1048576: true; the input reads as it did. -/
def fnExactPointGetUptoRow : OpenClaim := { program := "ytialmfolgendlab", sum := "ae6986f3ed906259b1c81f2ea17fb64e2dc5ade6aa3e7fa777d3a62407c4445a", func := "loop.example/quoin/laws.FnExactPointGet", spec := "fnExactPointGet", apart := false, narrowed := true }
def FnExactPointGetUptoSaid : Prop := fnExactPointGetUptoRow.holds Try.pinned (OpenSpec.upto fnExactPointGetSpec)

/-- 'laws.FnExactListWords', WHERE WHAT IT READS IS OF BULK AT MOST 1048576: true; the input reads as it did. -/
def fnExactListWordsUptoRow : OpenClaim := { program := "ytialmfolgendlab", sum := "ae6986f3ed906259b1c81f2ea17fb64e2dc5ade6aa3e7fa777d3a62407c4445a", func := "loop.example/quoin/laws.FnExactListWords", spec := "fnExactListWords", apart := false, narrowed := true }
def FnExactListWordsUptoSaid : Prop := fnExactListWordsUptoRow.holds Try.pinned (OpenSpec.upto fnExactListWordsSpec)

/-- 'laws.FnExactFrameOk', WHERE WHAT IT READS IS OF BULK AT MOST 1048576: true; the input reads as it did. -/
def fnExactFrameOkUptoRow : OpenClaim := { program := "ytialmfolgendlab", sum := "ae6986f3ed906259b1c81f2ea17fb64e2dc5ade6aa3e7fa777d3a62407c4445a", func := "loop.example/quoin/laws.FnExactFrameOk", spec := "fnExactFrameOk", apart := false, narrowed := true }
def FnExactFrameOkUptoSaid : Prop := fnExactFrameOkUptoRow.holds Try.pinned (OpenSpec.upto fnExactFrameOkSpec)

/-- 'laws.FnExactFramePut', WHERE WHAT IT READS IS OF BULK AT MOST 1048576: true; the input reads as it did. -/
def fnExactFramePutUptoRow : OpenClaim := { program := "ytialmfolgendlab", sum := "ae6986f3ed906259b1c81f2ea17fb64e2dc5ade6aa3e7fa777d3a62407c4445a", func := "loop.example/quoin/laws.FnExactFramePut", spec := "fnExactFramePut", inPlace := ["internal/abi.NoEscape"], apart := false, narrowed := true }
def FnExactFramePutUptoSaid : Prop := fnExactFramePutUptoRow.holds Try.pinned (OpenSpec.upto fnExactFramePutSpec)

end Rows
end Go.Proofs.Ytialmfolgendlab
