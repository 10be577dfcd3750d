/-
  NARROWER THAN 'FOR EVERY INPUT', by the rows' own cells (each row's printed sentence says how): FnExactBuild: loops · FnExactBuildOne: loops.
  DERIVED. THE GIVEN ROWS OF THIS SEAT. 4 by the template 'for every input the law returns true; each argument reads behind the call as it read before'; 0 by the template 'total and deterministic' (their statements: YtbhmklbdfmgmlaaTotals.lean).
  GIVEN WITH THE SEED: the statements are not yours to turn. If you find one false, say at which input.
  Laid BY PROGRAM, IN A SANDBOX (cutbox-rows.mjs): the forced cells as the released guide's own fill.sh prints them over the translation d5e0cc96dda6e2fe… (all of the seat's roots in one cut). By AI agents, Wed Nov 11 2026. No macro, syntax, notation, axiom, sorry.
-/
import Derived.Test.YtbhmklbdfmgmlaaChecked
import GoSem.Claim
import GoSem.ClaimJoined
import GoSem.ClaimMapViews
import Derived.JoinedTies
import Derived.KernelRfl
namespace Go.Proofs.Ytbhmklbdfmgmlaa
/- THE CELL 'sum', in the pinned program and in every row, IS THE sha256 OF THE DUMP (.gsa) THAT YtbhmklbdfmgmlaaProg.lean LOADS. Nothing in Lean hashes anything: it is a label: what it is worth is what the hold of that sum in a sandbox is worth. -/
noncomputable def Try.pinned : Pinned := { name := "ytbhmklbdfmgmlaa", sum := "d5e0cc96dda6e2fe9a4b20d579581ca4034d09056456c5538eb7abba3930e10c", checked := Try.checked }
namespace Rows
def none {H : Type} : Left H := { results := [], args := [] }

/-- 'laws.FnExactBuild': WHATEVER THE INPUT: true; the input reads as it did. -/
def fnExactBuildSpec : ChangeSpec := { name := "fnExactBuild", fn := fun _ => fun
  | [d1, d2] => { results := [.lit (.bool true)], args := [d1, d2] }
  | _ => none }
def fnExactBuildRow : OpenClaim := { program := "ytbhmklbdfmgmlaa", sum := "d5e0cc96dda6e2fe9a4b20d579581ca4034d09056456c5538eb7abba3930e10c", func := "loop.example/quoin/laws.FnExactBuild", spec := "fnExactBuild", inPlace := ["internal/abi.NoEscape"], unfollowed := true, recurses := true, loops := true, apart := false }
def FnExactBuildSaid : Prop := fnExactBuildRow.holds Try.pinned (OpenSpec.ofChange fnExactBuildSpec)

/-- ITS FALSE NEIGHBOUR: 'it returns false'. Refute it at one input. -/
def fnExactBuildWrong : ChangeSpec := { name := "fnExactBuild", fn := fun _ => fun
  | [d1, d2] => { results := [.lit (.bool false)], args := [d1, d2] }
  | _ => none }
def FnExactBuildWrongFalsely : Prop := fnExactBuildRow.holds Try.pinned (OpenSpec.ofChange fnExactBuildWrong)

/-- 'laws.FnExactBuildOne': WHATEVER THE INPUT: true; the input reads as it did. -/
def fnExactBuildOneSpec : ChangeSpec := { name := "fnExactBuildOne", fn := fun _ => fun
  | [d] => { results := [.lit (.bool true)], args := [d] }
  | _ => none }
def fnExactBuildOneRow : OpenClaim := { program := "ytbhmklbdfmgmlaa", sum := "d5e0cc96dda6e2fe9a4b20d579581ca4034d09056456c5538eb7abba3930e10c", func := "loop.example/quoin/laws.FnExactBuildOne", spec := "fnExactBuildOne", inPlace := ["internal/abi.NoEscape"], unfollowed := true, recurses := true, loops := true, apart := false }
def FnExactBuildOneSaid : Prop := fnExactBuildOneRow.holds Try.pinned (OpenSpec.ofChange fnExactBuildOneSpec)

/-- ITS FALSE NEIGHBOUR: 'it returns false'. Refute it at one input. -/
def fnExactBuildOneWrong : ChangeSpec := { name := "fnExactBuildOne", fn := fun _ => fun
  | [d] => { results := [.lit (.bool false)], args := [d] }
  | _ => none }
def FnExactBuildOneWrongFalsely : Prop := fnExactBuildOneRow.holds Try.pinned (OpenSpec.ofChange fnExactBuildOneWrong)

/-- 'laws.FnNodeWords': WHATEVER THE INPUT: true; the input reads as it did. -/
def fnNodeWordsSpec : ChangeSpec := { name := "fnNodeWords", fn := fun _ => fun
  | [d] => { results := [.lit (.bool true)], args := [d] }
  | _ => none }
def fnNodeWordsRow : OpenClaim := { program := "ytbhmklbdfmgmlaa", sum := "d5e0cc96dda6e2fe9a4b20d579581ca4034d09056456c5538eb7abba3930e10c", func := "loop.example/quoin/laws.FnNodeWords", spec := "fnNodeWords", inPlace := ["internal/abi.NoEscape"], unfollowed := true, recurses := true, apart := false }
def FnNodeWordsSaid : Prop := fnNodeWordsRow.holds Try.pinned (OpenSpec.ofChange fnNodeWordsSpec)

/-- ITS FALSE NEIGHBOUR: 'it returns false'. Refute it at one input. -/
def fnNodeWordsWrong : ChangeSpec := { name := "fnNodeWords", fn := fun _ => fun
  | [d] => { results := [.lit (.bool false)], args := [d] }
  | _ => none }
def FnNodeWordsWrongFalsely : Prop := fnNodeWordsRow.holds Try.pinned (OpenSpec.ofChange fnNodeWordsWrong)

/-- 'laws.FnBuildSegs': WHATEVER THE INPUT: true; the input reads as it did. -/
def fnBuildSegsSpec : ChangeSpec := { name := "fnBuildSegs", fn := fun _ => fun
  | [d] => { results := [.lit (.bool true)], args := [d] }
  | _ => none }
def fnBuildSegsRow : OpenClaim := { program := "ytbhmklbdfmgmlaa", sum := "d5e0cc96dda6e2fe9a4b20d579581ca4034d09056456c5538eb7abba3930e10c", func := "loop.example/quoin/laws.FnBuildSegs", spec := "fnBuildSegs", inPlace := ["internal/abi.NoEscape"], unfollowed := true, recurses := true, apart := false }
def FnBuildSegsSaid : Prop := fnBuildSegsRow.holds Try.pinned (OpenSpec.ofChange fnBuildSegsSpec)

/-- ITS FALSE NEIGHBOUR: 'it returns false'. Refute it at one input. -/
def fnBuildSegsWrong : ChangeSpec := { name := "fnBuildSegs", fn := fun _ => fun
  | [d] => { results := [.lit (.bool false)], args := [d] }
  | _ => none }
def FnBuildSegsWrongFalsely : Prop := fnBuildSegsRow.holds Try.pinned (OpenSpec.ofChange fnBuildSegsWrong)

/- THE SECOND FORM. 'bulk': how many values and letters a reading holds, each counted each time it is reached (what is shared counts as often as it is met; a slice's spare places count too). A statement '..UptoSaid' is the law's where the arguments, and the package variables that the reading takes, are together of bulk at most 1048576: NARROWER than '..Said'. Prove '..Said' where nothing that the law and all that it calls make is longer than what came in: it says more and counts as full. Else prove '..UptoSaid'. A law counts once. -/
mutual
def uptoBulk {H : Type} : DataW H → Nat
  | .lit (.string bytes) => bytes.length + 1
  | .lit _ => 1
  | .nil => 1
  | .ptr d => uptoBulk d + 1
  | .slice elems spare => uptoBulkAll elems + uptoBulkAll spare + 1
  | .agg parts => uptoBulkAll parts + 1
  | .iface _ d => uptoBulk d + 1
  | .map entries => uptoBulkEntries entries + 1
  | .held _ => 1
def uptoBulkAll {H : Type} : List (DataW H) → Nat
  | [] => 0
  | d :: r => uptoBulk d + uptoBulkAll r
def uptoBulkEntries {H : Type} : List (Lit × DataW H) → Nat
  | [] => 0
  | x :: r => uptoBulkEntry x + uptoBulkEntries r
def uptoBulkEntry {H : Type} : Lit × DataW H → Nat
  | (.string bytes, d) => bytes.length + uptoBulk d + 1
  | (_, d) => uptoBulk d + 1
 end
def uptoSmall : (H : Type) → List (DataW H) → Bool := fun _ ds => decide (uptoBulkAll ds ≤ 1048576)
def OpenSpec.upto (s : _root_.Go.ChangeSpec) : _root_.Go.OpenSpec := { _root_.Go.OpenSpec.ofChange s with cond := some uptoSmall }

/-- 'laws.FnExactBuild', WHERE WHAT IT READS IS OF BULK AT MOST 1048576: true; the input reads as it did. -/
def fnExactBuildUptoRow : OpenClaim := { program := "ytbhmklbdfmgmlaa", sum := "d5e0cc96dda6e2fe9a4b20d579581ca4034d09056456c5538eb7abba3930e10c", func := "loop.example/quoin/laws.FnExactBuild", spec := "fnExactBuild", inPlace := ["internal/abi.NoEscape"], unfollowed := true, recurses := true, loops := true, apart := false, narrowed := true }
def FnExactBuildUptoSaid : Prop := fnExactBuildUptoRow.holds Try.pinned (OpenSpec.upto fnExactBuildSpec)

/-- 'laws.FnExactBuildOne', WHERE WHAT IT READS IS OF BULK AT MOST 1048576: true; the input reads as it did. -/
def fnExactBuildOneUptoRow : OpenClaim := { program := "ytbhmklbdfmgmlaa", sum := "d5e0cc96dda6e2fe9a4b20d579581ca4034d09056456c5538eb7abba3930e10c", func := "loop.example/quoin/laws.FnExactBuildOne", spec := "fnExactBuildOne", inPlace := ["internal/abi.NoEscape"], unfollowed := true, recurses := true, loops := true, apart := false, narrowed := true }
def FnExactBuildOneUptoSaid : Prop := fnExactBuildOneUptoRow.holds Try.pinned (OpenSpec.upto fnExactBuildOneSpec)

/-- 'laws.FnNodeWords', WHERE WHAT IT READS IS OF BULK AT MOST 1048576: true; the input reads as it did. -/
def fnNodeWordsUptoRow : OpenClaim := { program := "ytbhmklbdfmgmlaa", sum := "d5e0cc96dda6e2fe9a4b20d579581ca4034d09056456c5538eb7abba3930e10c", func := "loop.example/quoin/laws.FnNodeWords", spec := "fnNodeWords", inPlace := ["internal/abi.NoEscape"], unfollowed := true, recurses := true, apart := false, narrowed := true }
def FnNodeWordsUptoSaid : Prop := fnNodeWordsUptoRow.holds Try.pinned (OpenSpec.upto fnNodeWordsSpec)

/-- 'laws.FnBuildSegs', WHERE WHAT IT READS IS OF BULK AT MOST 1048576: true; the input reads as it did. -/
def fnBuildSegsUptoRow : OpenClaim := { program := "ytbhmklbdfmgmlaa", sum := "d5e0cc96dda6e2fe9a4b20d579581ca4034d09056456c5538eb7abba3930e10c", func := "loop.example/quoin/laws.FnBuildSegs", spec := "fnBuildSegs", inPlace := ["internal/abi.NoEscape"], unfollowed := true, recurses := true, apart := false, narrowed := true }
def FnBuildSegsUptoSaid : Prop := fnBuildSegsUptoRow.holds Try.pinned (OpenSpec.upto fnBuildSegsSpec)

end Rows
end Go.Proofs.Ytbhmklbdfmgmlaa
