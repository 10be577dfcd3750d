/-
  NARROWER THAN 'FOR EVERY INPUT', by the rows' own cells (each row's printed sentence says how): FnExactNodeOk: loops · FnExactNodeSame: loops · FnExactNodeWords: loops · FnExactReadCost: loops.
  DERIVED. THE GIVEN ROWS OF THIS SEAT. 8 by the template 'for every input the law returns true; each argument reads behind the call as it read before'; 0 by the template 'total and deterministic' (their statements: YtfgebmmnlneciabTotals.lean).
  GIVEN WITH THE SEED: the statements are not yours to turn. If you find one false, say at which input.
  Laid BY PROGRAM, IN A SANDBOX (cutbox-rows.mjs): the forced cells as the released guide's own fill.sh prints them over the translation e090f9eeaaa88693… (all of the seat's roots in one cut). By AI agents, Wed Nov 11 2026. No macro, syntax, notation, axiom, sorry.
-/
import Derived.Test.YtfgebmmnlneciabChecked
import GoSem.Claim
import GoSem.ClaimJoined
import GoSem.ClaimMapViews
import Derived.JoinedTies
import Derived.KernelRfl
namespace Go.Proofs.Ytfgebmmnlneciab
/- THE CELL 'sum', in the pinned program and in every row, IS THE sha256 OF THE DUMP (.gsa) THAT YtfgebmmnlneciabProg.lean LOADS. Nothing in Lean hashes anything: it is a label: what it is worth is what the hold of that sum in a sandbox is worth. -/
noncomputable def Try.pinned : Pinned := { name := "ytfgebmmnlneciab", sum := "e090f9eeaaa886931133da6c7691a12693caf05f157876e2f957c329af34eb89", checked := Try.checked }
namespace Rows
def none {H : Type} : Left H := { results := [], args := [] }

/-- 'laws.FnExactNodeOk': WHATEVER THE INPUT: true; the input reads as it did. -/
def fnExactNodeOkSpec : ChangeSpec := { name := "fnExactNodeOk", fn := fun _ => fun
  | [d] => { results := [.lit (.bool true)], args := [d] }
  | _ => none }
def fnExactNodeOkRow : OpenClaim := { program := "ytfgebmmnlneciab", sum := "e090f9eeaaa886931133da6c7691a12693caf05f157876e2f957c329af34eb89", func := "loop.example/quoin/laws.FnExactNodeOk", spec := "fnExactNodeOk", recurses := true, loops := true, plainKeys := false, apart := false }
def FnExactNodeOkSaid : Prop := fnExactNodeOkRow.holds Try.pinned (OpenSpec.ofChange fnExactNodeOkSpec)

/-- ITS FALSE NEIGHBOUR: 'it returns false'. Refute it at one input. -/
def fnExactNodeOkWrong : ChangeSpec := { name := "fnExactNodeOk", fn := fun _ => fun
  | [d] => { results := [.lit (.bool false)], args := [d] }
  | _ => none }
def FnExactNodeOkWrongFalsely : Prop := fnExactNodeOkRow.holds Try.pinned (OpenSpec.ofChange fnExactNodeOkWrong)

/-- 'laws.FnExactNodeSame': WHATEVER THE INPUT: true; the input reads as it did. -/
def fnExactNodeSameSpec : ChangeSpec := { name := "fnExactNodeSame", fn := fun _ => fun
  | [d1, d2] => { results := [.lit (.bool true)], args := [d1, d2] }
  | _ => none }
def fnExactNodeSameRow : OpenClaim := { program := "ytfgebmmnlneciab", sum := "e090f9eeaaa886931133da6c7691a12693caf05f157876e2f957c329af34eb89", func := "loop.example/quoin/laws.FnExactNodeSame", spec := "fnExactNodeSame", recurses := true, loops := true, plainKeys := false, apart := false }
def FnExactNodeSameSaid : Prop := fnExactNodeSameRow.holds Try.pinned (OpenSpec.ofChange fnExactNodeSameSpec)

/-- ITS FALSE NEIGHBOUR: 'it returns false'. Refute it at one input. -/
def fnExactNodeSameWrong : ChangeSpec := { name := "fnExactNodeSame", fn := fun _ => fun
  | [d1, d2] => { results := [.lit (.bool false)], args := [d1, d2] }
  | _ => none }
def FnExactNodeSameWrongFalsely : Prop := fnExactNodeSameRow.holds Try.pinned (OpenSpec.ofChange fnExactNodeSameWrong)

/-- 'laws.FnExactNodeWords': WHATEVER THE INPUT: true; the input reads as it did. -/
def fnExactNodeWordsSpec : ChangeSpec := { name := "fnExactNodeWords", fn := fun _ => fun
  | [d] => { results := [.lit (.bool true)], args := [d] }
  | _ => none }
def fnExactNodeWordsRow : OpenClaim := { program := "ytfgebmmnlneciab", sum := "e090f9eeaaa886931133da6c7691a12693caf05f157876e2f957c329af34eb89", func := "loop.example/quoin/laws.FnExactNodeWords", spec := "fnExactNodeWords", recurses := true, loops := true, plainKeys := false, apart := false }
def FnExactNodeWordsSaid : Prop := fnExactNodeWordsRow.holds Try.pinned (OpenSpec.ofChange fnExactNodeWordsSpec)

/-- ITS FALSE NEIGHBOUR: 'it returns false'. Refute it at one input. -/
def fnExactNodeWordsWrong : ChangeSpec := { name := "fnExactNodeWords", fn := fun _ => fun
  | [d] => { results := [.lit (.bool false)], args := [d] }
  | _ => none }
def FnExactNodeWordsWrongFalsely : Prop := fnExactNodeWordsRow.holds Try.pinned (OpenSpec.ofChange fnExactNodeWordsWrong)

/-- 'laws.FnNodeOk': WHATEVER THE INPUT: true; the input reads as it did. -/
def fnNodeOkSpec : ChangeSpec := { name := "fnNodeOk", fn := fun _ => fun
  | [d] => { results := [.lit (.bool true)], args := [d] }
  | _ => none }
def fnNodeOkRow : OpenClaim := { program := "ytfgebmmnlneciab", sum := "e090f9eeaaa886931133da6c7691a12693caf05f157876e2f957c329af34eb89", func := "loop.example/quoin/laws.FnNodeOk", spec := "fnNodeOk", recurses := true, plainKeys := false, apart := false }
def FnNodeOkSaid : Prop := fnNodeOkRow.holds Try.pinned (OpenSpec.ofChange fnNodeOkSpec)

/-- ITS FALSE NEIGHBOUR: 'it returns false'. Refute it at one input. -/
def fnNodeOkWrong : ChangeSpec := { name := "fnNodeOk", fn := fun _ => fun
  | [d] => { results := [.lit (.bool false)], args := [d] }
  | _ => none }
def FnNodeOkWrongFalsely : Prop := fnNodeOkRow.holds Try.pinned (OpenSpec.ofChange fnNodeOkWrong)

/-- 'laws.FnNodeSame': WHATEVER THE INPUT: true; the input reads as it did. -/
def fnNodeSameSpec : ChangeSpec := { name := "fnNodeSame", fn := fun _ => fun
  | [d] => { results := [.lit (.bool true)], args := [d] }
  | _ => none }
def fnNodeSameRow : OpenClaim := { program := "ytfgebmmnlneciab", sum := "e090f9eeaaa886931133da6c7691a12693caf05f157876e2f957c329af34eb89", func := "loop.example/quoin/laws.FnNodeSame", spec := "fnNodeSame", recurses := true, plainKeys := false, apart := false }
def FnNodeSameSaid : Prop := fnNodeSameRow.holds Try.pinned (OpenSpec.ofChange fnNodeSameSpec)

/-- ITS FALSE NEIGHBOUR: 'it returns false'. Refute it at one input. -/
def fnNodeSameWrong : ChangeSpec := { name := "fnNodeSame", fn := fun _ => fun
  | [d] => { results := [.lit (.bool false)], args := [d] }
  | _ => none }
def FnNodeSameWrongFalsely : Prop := fnNodeSameRow.holds Try.pinned (OpenSpec.ofChange fnNodeSameWrong)

/-- 'laws.FnNodeWords': WHATEVER THE INPUT: true; the input reads as it did. -/
def fnNodeWordsSpec : ChangeSpec := { name := "fnNodeWords", fn := fun _ => fun
  | [d] => { results := [.lit (.bool true)], args := [d] }
  | _ => none }
def fnNodeWordsRow : OpenClaim := { program := "ytfgebmmnlneciab", sum := "e090f9eeaaa886931133da6c7691a12693caf05f157876e2f957c329af34eb89", func := "loop.example/quoin/laws.FnNodeWords", spec := "fnNodeWords", inPlace := ["internal/abi.NoEscape"], unfollowed := true, recurses := true, plainKeys := false, apart := false }
def FnNodeWordsSaid : Prop := fnNodeWordsRow.holds Try.pinned (OpenSpec.ofChange fnNodeWordsSpec)

/-- ITS FALSE NEIGHBOUR: 'it returns false'. Refute it at one input. -/
def fnNodeWordsWrong : ChangeSpec := { name := "fnNodeWords", fn := fun _ => fun
  | [d] => { results := [.lit (.bool false)], args := [d] }
  | _ => none }
def FnNodeWordsWrongFalsely : Prop := fnNodeWordsRow.holds Try.pinned (OpenSpec.ofChange fnNodeWordsWrong)

/-- 'laws.FnReadCost': WHATEVER THE INPUT: true; the input reads as it did. -/
def fnReadCostSpec : ChangeSpec := { name := "fnReadCost", fn := fun _ => fun
  | [d] => { results := [.lit (.bool true)], args := [d] }
  | _ => none }
def fnReadCostRow : OpenClaim := { program := "ytfgebmmnlneciab", sum := "e090f9eeaaa886931133da6c7691a12693caf05f157876e2f957c329af34eb89", func := "loop.example/quoin/laws.FnReadCost", spec := "fnReadCost", recurses := true, plainKeys := false, apart := false }
def FnReadCostSaid : Prop := fnReadCostRow.holds Try.pinned (OpenSpec.ofChange fnReadCostSpec)

/-- ITS FALSE NEIGHBOUR: 'it returns false'. Refute it at one input. -/
def fnReadCostWrong : ChangeSpec := { name := "fnReadCost", fn := fun _ => fun
  | [d] => { results := [.lit (.bool false)], args := [d] }
  | _ => none }
def FnReadCostWrongFalsely : Prop := fnReadCostRow.holds Try.pinned (OpenSpec.ofChange fnReadCostWrong)

/-- 'laws.FnExactReadCost': WHATEVER THE INPUT: true; the input reads as it did. -/
def fnExactReadCostSpec : ChangeSpec := { name := "fnExactReadCost", fn := fun _ => fun
  | [d] => { results := [.lit (.bool true)], args := [d] }
  | _ => none }
def fnExactReadCostRow : OpenClaim := { program := "ytfgebmmnlneciab", sum := "e090f9eeaaa886931133da6c7691a12693caf05f157876e2f957c329af34eb89", func := "loop.example/quoin/laws.FnExactReadCost", spec := "fnExactReadCost", recurses := true, loops := true, plainKeys := false, apart := false }
def FnExactReadCostSaid : Prop := fnExactReadCostRow.holds Try.pinned (OpenSpec.ofChange fnExactReadCostSpec)

/-- ITS FALSE NEIGHBOUR: 'it returns false'. Refute it at one input. -/
def fnExactReadCostWrong : ChangeSpec := { name := "fnExactReadCost", fn := fun _ => fun
  | [d] => { results := [.lit (.bool false)], args := [d] }
  | _ => none }
def FnExactReadCostWrongFalsely : Prop := fnExactReadCostRow.holds Try.pinned (OpenSpec.ofChange fnExactReadCostWrong)

/- THE SECOND FORM. 'bulk': how many values and letters a reading holds, each counted each time it is reached (what is shared counts as often as it is met; a slice's spare places count too). A statement '..UptoSaid' is the law's where the arguments, and the package variables that the reading takes, are together of bulk at most 1048576: NARROWER than '..Said'. Prove '..Said' where nothing that the law and all that it calls make is longer than what came in: it says more and counts as full. Else prove '..UptoSaid'. A law counts once. -/
mutual
def uptoBulk {H : Type} : DataW H → Nat
  | .lit (.string bytes) => bytes.length + 1
  | .lit _ => 1
  | .nil => 1
  | .ptr d => uptoBulk d + 1
  | .slice elems spare => uptoBulkAll elems + uptoBulkAll spare + 1
  | .agg parts => uptoBulkAll parts + 1
  | .iface _ d => uptoBulk d + 1
  | .map entries => uptoBulkEntries entries + 1
  | .held _ => 1
def uptoBulkAll {H : Type} : List (DataW H) → Nat
  | [] => 0
  | d :: r => uptoBulk d + uptoBulkAll r
def uptoBulkEntries {H : Type} : List (Lit × DataW H) → Nat
  | [] => 0
  | x :: r => uptoBulkEntry x + uptoBulkEntries r
def uptoBulkEntry {H : Type} : Lit × DataW H → Nat
  | (.string bytes, d) => bytes.length + uptoBulk d + 1
  | (_, d) => uptoBulk d + 1
 end
def uptoSmall : (H : Type) → List (DataW H) → Bool := fun _ ds => decide (uptoBulkAll ds ≤ 1048576)
def OpenSpec.upto (s : _root_.Go.ChangeSpec) : _root_.Go.OpenSpec := { _root_.Go.OpenSpec.ofChange s with cond := some uptoSmall }

/-- 'laws.FnExactNodeOk', WHERE WHAT IT READS IS OF BULK AT MOST 1048576: true; the input reads as it did. -/
def fnExactNodeOkUptoRow : OpenClaim := { program := "ytfgebmmnlneciab", sum := "e090f9eeaaa886931133da6c7691a12693caf05f157876e2f957c329af34eb89", func := "loop.example/quoin/laws.FnExactNodeOk", spec := "fnExactNodeOk", recurses := true, loops := true, plainKeys := false, apart := false, narrowed := true }
def FnExactNodeOkUptoSaid : Prop := fnExactNodeOkUptoRow.holds Try.pinned (OpenSpec.upto fnExactNodeOkSpec)

/-- 'laws.FnExactNodeSame', WHERE WHAT IT READS IS OF BULK AT MOST 1048576: true; the input reads as it did. -/
def fnExactNodeSameUptoRow : OpenClaim := { program := "ytfgebmmnlneciab", sum := "e090f9eeaaa886931133da6c7691a12693caf05f157876e2f957c329af34eb89", func := "loop.example/quoin/laws.FnExactNodeSame", spec := "fnExactNodeSame", recurses := true, loops := true, plainKeys := false, apart := false, narrowed := true }
def FnExactNodeSameUptoSaid : Prop := fnExactNodeSameUptoRow.holds Try.pinned (OpenSpec.upto fnExactNodeSameSpec)

/-- 'laws.FnExactNodeWords', WHERE WHAT IT READS IS OF BULK AT MOST 1048576: true; the input reads as it did. -/
def fnExactNodeWordsUptoRow : OpenClaim := { program := "ytfgebmmnlneciab", sum := "e090f9eeaaa886931133da6c7691a12693caf05f157876e2f957c329af34eb89", func := "loop.example/quoin/laws.FnExactNodeWords", spec := "fnExactNodeWords", recurses := true, loops := true, plainKeys := false, apart := false, narrowed := true }
def FnExactNodeWordsUptoSaid : Prop := fnExactNodeWordsUptoRow.holds Try.pinned (OpenSpec.upto fnExactNodeWordsSpec)

/-- 'laws.FnNodeOk', WHERE WHAT IT READS IS OF BULK AT MOST 1048576: true; the input reads as it did. -/
def fnNodeOkUptoRow : OpenClaim := { program := "ytfgebmmnlneciab", sum := "e090f9eeaaa886931133da6c7691a12693caf05f157876e2f957c329af34eb89", func := "loop.example/quoin/laws.FnNodeOk", spec := "fnNodeOk", recurses := true, plainKeys := false, apart := false, narrowed := true }
def FnNodeOkUptoSaid : Prop := fnNodeOkUptoRow.holds Try.pinned (OpenSpec.upto fnNodeOkSpec)

/-- 'laws.FnNodeSame', WHERE WHAT IT READS IS OF BULK AT MOST 1048576: true; the input reads as it did. -/
def fnNodeSameUptoRow : OpenClaim := { program := "ytfgebmmnlneciab", sum := "e090f9eeaaa886931133da6c7691a12693caf05f157876e2f957c329af34eb89", func := "loop.example/quoin/laws.FnNodeSame", spec := "fnNodeSame", recurses := true, plainKeys := false, apart := false, narrowed := true }
def FnNodeSameUptoSaid : Prop := fnNodeSameUptoRow.holds Try.pinned (OpenSpec.upto fnNodeSameSpec)

/-- 'laws.FnNodeWords', WHERE WHAT IT READS IS OF BULK AT MOST 1048576: true; the input reads as it did. -/
def fnNodeWordsUptoRow : OpenClaim := { program := "ytfgebmmnlneciab", sum := "e090f9eeaaa886931133da6c7691a12693caf05f157876e2f957c329af34eb89", func := "loop.example/quoin/laws.FnNodeWords", spec := "fnNodeWords", inPlace := ["internal/abi.NoEscape"], unfollowed := true, recurses := true, plainKeys := false, apart := false, narrowed := true }
def FnNodeWordsUptoSaid : Prop := fnNodeWordsUptoRow.holds Try.pinned (OpenSpec.upto fnNodeWordsSpec)

/-- 'laws.FnReadCost', WHERE WHAT IT READS IS OF BULK AT MOST 1048576: true; the input reads as it did. -/
def fnReadCostUptoRow : OpenClaim := { program := "ytfgebmmnlneciab", sum := "e090f9eeaaa886931133da6c7691a12693caf05f157876e2f957c329af34eb89", func := "loop.example/quoin/laws.FnReadCost", spec := "fnReadCost", recurses := true, plainKeys := false, apart := false, narrowed := true }
def FnReadCostUptoSaid : Prop := fnReadCostUptoRow.holds Try.pinned (OpenSpec.upto fnReadCostSpec)

/-- 'laws.FnExactReadCost', WHERE WHAT IT READS IS OF BULK AT MOST 1048576: true; the input reads as it did. -/
def fnExactReadCostUptoRow : OpenClaim := { program := "ytfgebmmnlneciab", sum := "e090f9eeaaa886931133da6c7691a12693caf05f157876e2f957c329af34eb89", func := "loop.example/quoin/laws.FnExactReadCost", spec := "fnExactReadCost", recurses := true, loops := true, plainKeys := false, apart := false, narrowed := true }
def FnExactReadCostUptoSaid : Prop := fnExactReadCostUptoRow.holds Try.pinned (OpenSpec.upto fnExactReadCostSpec)

end Rows
end Go.Proofs.Ytfgebmmnlneciab
