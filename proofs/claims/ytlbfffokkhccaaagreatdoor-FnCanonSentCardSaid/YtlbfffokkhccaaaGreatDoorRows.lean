/-
  NARROWER THAN 'FOR EVERY INPUT', by the rows' own cells (each row's printed sentence says how): FnBuild: laid · FnBuildOne: laid · FnSend: laid · FnReadFar: laid · FnReadTwo: laid · FnCanonSent: laid.
  DERIVED. THE GIVEN ROWS OF THIS SEAT. 6 by the template 'for every input the law returns true; each argument reads behind the call as it read before'; 0 by the template 'total and deterministic' (their statements: YtlbfffokkhccaaaGreatDoorTotals.lean).
  GIVEN WITH THE SEED: the statements are not yours to turn. If you find one false, say at which input.
  Laid BY PROGRAM, IN A SANDBOX (cutbox-rows.mjs): the forced cells as the released guide's own fill.sh prints them over the translation 3b2fb2707c65fb08… (all of the seat's roots in one cut). By AI agents, Wed Nov 11 2026. No macro, syntax, notation, axiom, sorry.
-/
import Derived.Test.YtlbfffokkhccaaaGreatDoorChecked
import GoSem.PinnedTables
import GoSem.Claim
import GoSem.ClaimJoined
import GoSem.ClaimMapViews
import Derived.JoinedTies
import Derived.KernelRfl
namespace Go.Proofs.YtlbfffokkhccaaaGreatDoor
/- THE CELL 'sum', in the pinned program and in every row, IS THE sha256 OF THE DUMP (.gsa) THAT YtlbfffokkhccaaaGreatDoorProg.lean LOADS. Nothing in Lean hashes anything: it is a label: what it is worth is what the hold of that sum in a sandbox is worth. -/
noncomputable def Tryz.pinned : Pinned := { name := "ytlbfffokkhccaaagreatdoor", sum := "3b2fb2707c65fb082b6c6cfc166f7d5867abe3532ebaa062dd2f35bc91b81586", checked := Tryz.checked }
namespace Rows
def none {H : Type} : Left H := { results := [], args := [] }

/- WHAT THE LISTED PACKAGE-LEVEL VARIABLES READ AS WHEN THE CALL BEGINS. Each datum BY PROGRAM (the guide's laid-datum.mjs) off the statement by which the dump's own 'gosem.cut.vars' lays the variable. In a bare row this is a premise. The card (YtlbfffokkhccaaaGreatDoorCards.lean) ties it to the program's text. -/
def laid_errors_errorType {H : Type} : DataW H := .iface "internal/reflectlite.rtype" (.agg [.ptr (.lit (.string [101, 114, 114, 111, 114]))])
def laid_unicode_utf8_acceptRanges {H : Type} : DataW H := .agg [.agg [.lit (.int .u8 128), .lit (.int .u8 191)], .agg [.lit (.int .u8 160), .lit (.int .u8 191)], .agg [.lit (.int .u8 128), .lit (.int .u8 159)], .agg [.lit (.int .u8 144), .lit (.int .u8 191)], .agg [.lit (.int .u8 128), .lit (.int .u8 143)], .agg [.lit (.int .u8 0), .lit (.int .u8 0)], .agg [.lit (.int .u8 0), .lit (.int .u8 0)], .agg [.lit (.int .u8 0), .lit (.int .u8 0)], .agg [.lit (.int .u8 0), .lit (.int .u8 0)], .agg [.lit (.int .u8 0), .lit (.int .u8 0)], .agg [.lit (.int .u8 0), .lit (.int .u8 0)], .agg [.lit (.int .u8 0), .lit (.int .u8 0)], .agg [.lit (.int .u8 0), .lit (.int .u8 0)], .agg [.lit (.int .u8 0), .lit (.int .u8 0)], .agg [.lit (.int .u8 0), .lit (.int .u8 0)], .agg [.lit (.int .u8 0), .lit (.int .u8 0)]]
/-- One of Go's own tables, pinned by name: the form's constant. -/
def laid_unicode_utf8_first : DataW Unit := Go.Pinned.utf8First

/-- 'laws.FnBuild': WHATEVER THE INPUT: true; the input reads as it did. -/
def fnBuildSpec : ChangeSpec := { name := "fnBuild", fn := fun _ => fun
  | [d] => { results := [.lit (.bool true)], args := [d] }
  | _ => none }
def fnBuildRow : OpenClaim := { program := "ytlbfffokkhccaaagreatdoor", sum := "3b2fb2707c65fb082b6c6cfc166f7d5867abe3532ebaa062dd2f35bc91b81586", func := "loop.example/quoin/laws.FnBuild", spec := "fnBuild", inPlace := ["internal/abi.NoEscape", "internal/reflectlite.ValueOf", "(internal/reflectlite.Value).Type", "(internal/reflectlite.Value).IsNil", "internal/reflectlite.TypeOf", "(internal/reflectlite.Value).Elem", "(internal/reflectlite.Value).Set"], unfollowed := true, recurses := true, named := ["errors.errorType"], plainKeys := false, apart := false, laid := [("errors.errorType", laid_errors_errorType)] }
def FnBuildSaid : Prop := fnBuildRow.holds Tryz.pinned (OpenSpec.ofChange fnBuildSpec)

/-- ITS FALSE NEIGHBOUR: 'it returns false'. Refute it at one input. -/
def fnBuildWrong : ChangeSpec := { name := "fnBuild", fn := fun _ => fun
  | [d] => { results := [.lit (.bool false)], args := [d] }
  | _ => none }
def FnBuildWrongFalsely : Prop := fnBuildRow.holds Tryz.pinned (OpenSpec.ofChange fnBuildWrong)

/-- 'laws.FnBuildOne': WHATEVER THE INPUT: true; the input reads as it did. -/
def fnBuildOneSpec : ChangeSpec := { name := "fnBuildOne", fn := fun _ => fun
  | [d] => { results := [.lit (.bool true)], args := [d] }
  | _ => none }
def fnBuildOneRow : OpenClaim := { program := "ytlbfffokkhccaaagreatdoor", sum := "3b2fb2707c65fb082b6c6cfc166f7d5867abe3532ebaa062dd2f35bc91b81586", func := "loop.example/quoin/laws.FnBuildOne", spec := "fnBuildOne", inPlace := ["internal/abi.NoEscape", "internal/reflectlite.ValueOf", "(internal/reflectlite.Value).Type", "(internal/reflectlite.Value).IsNil", "internal/reflectlite.TypeOf", "(internal/reflectlite.Value).Elem", "(internal/reflectlite.Value).Set"], unfollowed := true, recurses := true, named := ["errors.errorType"], plainKeys := false, apart := false, laid := [("errors.errorType", laid_errors_errorType)] }
def FnBuildOneSaid : Prop := fnBuildOneRow.holds Tryz.pinned (OpenSpec.ofChange fnBuildOneSpec)

/-- ITS FALSE NEIGHBOUR: 'it returns false'. Refute it at one input. -/
def fnBuildOneWrong : ChangeSpec := { name := "fnBuildOne", fn := fun _ => fun
  | [d] => { results := [.lit (.bool false)], args := [d] }
  | _ => none }
def FnBuildOneWrongFalsely : Prop := fnBuildOneRow.holds Tryz.pinned (OpenSpec.ofChange fnBuildOneWrong)

/-- 'laws.FnSend': WHATEVER THE INPUT: true; the input reads as it did. -/
def fnSendSpec : ChangeSpec := { name := "fnSend", fn := fun _ => fun
  | [d] => { results := [.lit (.bool true)], args := [d] }
  | _ => none }
def fnSendRow : OpenClaim := { program := "ytlbfffokkhccaaagreatdoor", sum := "3b2fb2707c65fb082b6c6cfc166f7d5867abe3532ebaa062dd2f35bc91b81586", func := "loop.example/quoin/laws.FnSend", spec := "fnSend", inPlace := ["internal/abi.NoEscape", "internal/bytealg.MakeNoZero", "internal/bytealg.IndexByteString", "internal/bytealg.IndexString", "internal/reflectlite.ValueOf", "(internal/reflectlite.Value).Type", "(internal/reflectlite.Value).IsNil", "internal/reflectlite.TypeOf", "(internal/reflectlite.Value).Elem", "(internal/reflectlite.Value).Set"], unfollowed := true, recurses := true, named := ["unicode/utf8.first", "unicode/utf8.acceptRanges", "errors.errorType", "internal/bytealg.MaxLen"], plainKeys := false, apart := false, laid := [("unicode/utf8.acceptRanges", laid_unicode_utf8_acceptRanges), ("errors.errorType", laid_errors_errorType), ("unicode/utf8.first", laid_unicode_utf8_first)] }
def FnSendSaid : Prop := fnSendRow.holds Tryz.pinned (OpenSpec.ofChange fnSendSpec)

/-- ITS FALSE NEIGHBOUR: 'it returns false'. Refute it at one input. -/
def fnSendWrong : ChangeSpec := { name := "fnSend", fn := fun _ => fun
  | [d] => { results := [.lit (.bool false)], args := [d] }
  | _ => none }
def FnSendWrongFalsely : Prop := fnSendRow.holds Tryz.pinned (OpenSpec.ofChange fnSendWrong)

/-- 'laws.FnReadFar': WHATEVER THE INPUT: true; the input reads as it did. -/
def fnReadFarSpec : ChangeSpec := { name := "fnReadFar", fn := fun _ => fun
  | [d] => { results := [.lit (.bool true)], args := [d] }
  | _ => none }
def fnReadFarRow : OpenClaim := { program := "ytlbfffokkhccaaagreatdoor", sum := "3b2fb2707c65fb082b6c6cfc166f7d5867abe3532ebaa062dd2f35bc91b81586", func := "loop.example/quoin/laws.FnReadFar", spec := "fnReadFar", inPlace := ["internal/abi.NoEscape", "internal/reflectlite.ValueOf", "(internal/reflectlite.Value).Type", "(internal/reflectlite.Value).IsNil", "internal/reflectlite.TypeOf", "(internal/reflectlite.Value).Elem", "(internal/reflectlite.Value).Set"], unfollowed := true, recurses := true, named := ["errors.errorType"], plainKeys := false, apart := false, laid := [("errors.errorType", laid_errors_errorType)] }
def FnReadFarSaid : Prop := fnReadFarRow.holds Tryz.pinned (OpenSpec.ofChange fnReadFarSpec)

/-- ITS FALSE NEIGHBOUR: 'it returns false'. Refute it at one input. -/
def fnReadFarWrong : ChangeSpec := { name := "fnReadFar", fn := fun _ => fun
  | [d] => { results := [.lit (.bool false)], args := [d] }
  | _ => none }
def FnReadFarWrongFalsely : Prop := fnReadFarRow.holds Tryz.pinned (OpenSpec.ofChange fnReadFarWrong)

/-- 'laws.FnReadTwo': WHATEVER THE INPUT: true; the input reads as it did. -/
def fnReadTwoSpec : ChangeSpec := { name := "fnReadTwo", fn := fun _ => fun
  | [d] => { results := [.lit (.bool true)], args := [d] }
  | _ => none }
def fnReadTwoRow : OpenClaim := { program := "ytlbfffokkhccaaagreatdoor", sum := "3b2fb2707c65fb082b6c6cfc166f7d5867abe3532ebaa062dd2f35bc91b81586", func := "loop.example/quoin/laws.FnReadTwo", spec := "fnReadTwo", inPlace := ["internal/abi.NoEscape", "internal/reflectlite.ValueOf", "(internal/reflectlite.Value).Type", "(internal/reflectlite.Value).IsNil", "internal/reflectlite.TypeOf", "(internal/reflectlite.Value).Elem", "(internal/reflectlite.Value).Set"], unfollowed := true, recurses := true, named := ["errors.errorType"], plainKeys := false, apart := false, laid := [("errors.errorType", laid_errors_errorType)] }
def FnReadTwoSaid : Prop := fnReadTwoRow.holds Tryz.pinned (OpenSpec.ofChange fnReadTwoSpec)

/-- ITS FALSE NEIGHBOUR: 'it returns false'. Refute it at one input. -/
def fnReadTwoWrong : ChangeSpec := { name := "fnReadTwo", fn := fun _ => fun
  | [d] => { results := [.lit (.bool false)], args := [d] }
  | _ => none }
def FnReadTwoWrongFalsely : Prop := fnReadTwoRow.holds Tryz.pinned (OpenSpec.ofChange fnReadTwoWrong)

/-- 'laws.FnCanonSent': WHATEVER THE INPUT: true; the input reads as it did. -/
def fnCanonSentSpec : ChangeSpec := { name := "fnCanonSent", fn := fun _ => fun
  | [d] => { results := [.lit (.bool true)], args := [d] }
  | _ => none }
def fnCanonSentRow : OpenClaim := { program := "ytlbfffokkhccaaagreatdoor", sum := "3b2fb2707c65fb082b6c6cfc166f7d5867abe3532ebaa062dd2f35bc91b81586", func := "loop.example/quoin/laws.FnCanonSent", spec := "fnCanonSent", inPlace := ["internal/abi.NoEscape", "internal/bytealg.MakeNoZero", "internal/bytealg.IndexByteString", "internal/bytealg.IndexString", "internal/reflectlite.ValueOf", "(internal/reflectlite.Value).Type", "(internal/reflectlite.Value).IsNil", "internal/reflectlite.TypeOf", "(internal/reflectlite.Value).Elem", "(internal/reflectlite.Value).Set"], unfollowed := true, recurses := true, named := ["unicode/utf8.first", "unicode/utf8.acceptRanges", "errors.errorType", "internal/bytealg.MaxLen"], plainKeys := false, apart := false, laid := [("unicode/utf8.acceptRanges", laid_unicode_utf8_acceptRanges), ("errors.errorType", laid_errors_errorType), ("unicode/utf8.first", laid_unicode_utf8_first)] }
def FnCanonSentSaid : Prop := fnCanonSentRow.holds Tryz.pinned (OpenSpec.ofChange fnCanonSentSpec)

/-- ITS FALSE NEIGHBOUR: 'it returns false'. Refute it at one input. -/
def fnCanonSentWrong : ChangeSpec := { name := "fnCanonSent", fn := fun _ => fun
  | [d] => { results := [.lit (.bool false)], args := [d] }
  | _ => none }
def FnCanonSentWrongFalsely : Prop := fnCanonSentRow.holds Tryz.pinned (OpenSpec.ofChange fnCanonSentWrong)

/- THE SECOND FORM. 'bulk': how many values and letters a reading holds, each counted each time it is reached (what is shared counts as often as it is met; a slice's spare places count too). A statement '..UptoSaid' is the law's where the arguments, and the package variables that the reading takes, are together of bulk at most 1048576: NARROWER than '..Said'. Prove '..Said' where nothing that the law and all that it calls make is longer than what came in: it says more and counts as full. Else prove '..UptoSaid'. A law counts once. -/
mutual
def uptoBulk {H : Type} : DataW H → Nat
  | .lit (.string bytes) => bytes.length + 1
  | .lit _ => 1
  | .nil => 1
  | .ptr d => uptoBulk d + 1
  | .slice elems spare => uptoBulkAll elems + uptoBulkAll spare + 1
  | .agg parts => uptoBulkAll parts + 1
  | .iface _ d => uptoBulk d + 1
  | .map entries => uptoBulkEntries entries + 1
  | .held _ => 1
def uptoBulkAll {H : Type} : List (DataW H) → Nat
  | [] => 0
  | d :: r => uptoBulk d + uptoBulkAll r
def uptoBulkEntries {H : Type} : List (Lit × DataW H) → Nat
  | [] => 0
  | x :: r => uptoBulkEntry x + uptoBulkEntries r
def uptoBulkEntry {H : Type} : Lit × DataW H → Nat
  | (.string bytes, d) => bytes.length + uptoBulk d + 1
  | (_, d) => uptoBulk d + 1
 end
def uptoSmall : (H : Type) → List (DataW H) → Bool := fun _ ds => decide (uptoBulkAll ds ≤ 1048576)
def OpenSpec.upto (s : _root_.Go.ChangeSpec) : _root_.Go.OpenSpec := { _root_.Go.OpenSpec.ofChange s with cond := some uptoSmall }

/-- 'laws.FnBuild', WHERE WHAT IT READS IS OF BULK AT MOST 1048576: true; the input reads as it did. -/
def fnBuildUptoRow : OpenClaim := { program := "ytlbfffokkhccaaagreatdoor", sum := "3b2fb2707c65fb082b6c6cfc166f7d5867abe3532ebaa062dd2f35bc91b81586", func := "loop.example/quoin/laws.FnBuild", spec := "fnBuild", inPlace := ["internal/abi.NoEscape", "internal/reflectlite.ValueOf", "(internal/reflectlite.Value).Type", "(internal/reflectlite.Value).IsNil", "internal/reflectlite.TypeOf", "(internal/reflectlite.Value).Elem", "(internal/reflectlite.Value).Set"], unfollowed := true, recurses := true, named := ["errors.errorType"], plainKeys := false, apart := false, laid := [("errors.errorType", laid_errors_errorType)], narrowed := true }
def FnBuildUptoSaid : Prop := fnBuildUptoRow.holds Tryz.pinned (OpenSpec.upto fnBuildSpec)

/-- 'laws.FnBuildOne', WHERE WHAT IT READS IS OF BULK AT MOST 1048576: true; the input reads as it did. -/
def fnBuildOneUptoRow : OpenClaim := { program := "ytlbfffokkhccaaagreatdoor", sum := "3b2fb2707c65fb082b6c6cfc166f7d5867abe3532ebaa062dd2f35bc91b81586", func := "loop.example/quoin/laws.FnBuildOne", spec := "fnBuildOne", inPlace := ["internal/abi.NoEscape", "internal/reflectlite.ValueOf", "(internal/reflectlite.Value).Type", "(internal/reflectlite.Value).IsNil", "internal/reflectlite.TypeOf", "(internal/reflectlite.Value).Elem", "(internal/reflectlite.Value).Set"], unfollowed := true, recurses := true, named := ["errors.errorType"], plainKeys := false, apart := false, laid := [("errors.errorType", laid_errors_errorType)], narrowed := true }
def FnBuildOneUptoSaid : Prop := fnBuildOneUptoRow.holds Tryz.pinned (OpenSpec.upto fnBuildOneSpec)

/-- 'laws.FnSend', WHERE WHAT IT READS IS OF BULK AT MOST 1048576: true; the input reads as it did. -/
def fnSendUptoRow : OpenClaim := { program := "ytlbfffokkhccaaagreatdoor", sum := "3b2fb2707c65fb082b6c6cfc166f7d5867abe3532ebaa062dd2f35bc91b81586", func := "loop.example/quoin/laws.FnSend", spec := "fnSend", inPlace := ["internal/abi.NoEscape", "internal/bytealg.MakeNoZero", "internal/bytealg.IndexByteString", "internal/bytealg.IndexString", "internal/reflectlite.ValueOf", "(internal/reflectlite.Value).Type", "(internal/reflectlite.Value).IsNil", "internal/reflectlite.TypeOf", "(internal/reflectlite.Value).Elem", "(internal/reflectlite.Value).Set"], unfollowed := true, recurses := true, named := ["unicode/utf8.first", "unicode/utf8.acceptRanges", "errors.errorType", "internal/bytealg.MaxLen"], plainKeys := false, apart := false, laid := [("unicode/utf8.acceptRanges", laid_unicode_utf8_acceptRanges), ("errors.errorType", laid_errors_errorType), ("unicode/utf8.first", laid_unicode_utf8_first)], narrowed := true }
def FnSendUptoSaid : Prop := fnSendUptoRow.holds Tryz.pinned (OpenSpec.upto fnSendSpec)

/-- 'laws.FnReadFar', WHERE WHAT IT READS IS OF BULK AT MOST 1048576: true; the input reads as it did. -/
def fnReadFarUptoRow : OpenClaim := { program := "ytlbfffokkhccaaagreatdoor", sum := "3b2fb2707c65fb082b6c6cfc166f7d5867abe3532ebaa062dd2f35bc91b81586", func := "loop.example/quoin/laws.FnReadFar", spec := "fnReadFar", inPlace := ["internal/abi.NoEscape", "internal/reflectlite.ValueOf", "(internal/reflectlite.Value).Type", "(internal/reflectlite.Value).IsNil", "internal/reflectlite.TypeOf", "(internal/reflectlite.Value).Elem", "(internal/reflectlite.Value).Set"], unfollowed := true, recurses := true, named := ["errors.errorType"], plainKeys := false, apart := false, laid := [("errors.errorType", laid_errors_errorType)], narrowed := true }
def FnReadFarUptoSaid : Prop := fnReadFarUptoRow.holds Tryz.pinned (OpenSpec.upto fnReadFarSpec)

/-- 'laws.FnReadTwo', WHERE WHAT IT READS IS OF BULK AT MOST 1048576: true; the input reads as it did. -/
def fnReadTwoUptoRow : OpenClaim := { program := "ytlbfffokkhccaaagreatdoor", sum := "3b2fb2707c65fb082b6c6cfc166f7d5867abe3532ebaa062dd2f35bc91b81586", func := "loop.example/quoin/laws.FnReadTwo", spec := "fnReadTwo", inPlace := ["internal/abi.NoEscape", "internal/reflectlite.ValueOf", "(internal/reflectlite.Value).Type", "(internal/reflectlite.Value).IsNil", "internal/reflectlite.TypeOf", "(internal/reflectlite.Value).Elem", "(internal/reflectlite.Value).Set"], unfollowed := true, recurses := true, named := ["errors.errorType"], plainKeys := false, apart := false, laid := [("errors.errorType", laid_errors_errorType)], narrowed := true }
def FnReadTwoUptoSaid : Prop := fnReadTwoUptoRow.holds Tryz.pinned (OpenSpec.upto fnReadTwoSpec)

/-- 'laws.FnCanonSent', WHERE WHAT IT READS IS OF BULK AT MOST 1048576: true; the input reads as it did. -/
def fnCanonSentUptoRow : OpenClaim := { program := "ytlbfffokkhccaaagreatdoor", sum := "3b2fb2707c65fb082b6c6cfc166f7d5867abe3532ebaa062dd2f35bc91b81586", func := "loop.example/quoin/laws.FnCanonSent", spec := "fnCanonSent", inPlace := ["internal/abi.NoEscape", "internal/bytealg.MakeNoZero", "internal/bytealg.IndexByteString", "internal/bytealg.IndexString", "internal/reflectlite.ValueOf", "(internal/reflectlite.Value).Type", "(internal/reflectlite.Value).IsNil", "internal/reflectlite.TypeOf", "(internal/reflectlite.Value).Elem", "(internal/reflectlite.Value).Set"], unfollowed := true, recurses := true, named := ["unicode/utf8.first", "unicode/utf8.acceptRanges", "errors.errorType", "internal/bytealg.MaxLen"], plainKeys := false, apart := false, laid := [("unicode/utf8.acceptRanges", laid_unicode_utf8_acceptRanges), ("errors.errorType", laid_errors_errorType), ("unicode/utf8.first", laid_unicode_utf8_first)], narrowed := true }
def FnCanonSentUptoSaid : Prop := fnCanonSentUptoRow.holds Tryz.pinned (OpenSpec.upto fnCanonSentSpec)

end Rows
end Go.Proofs.YtlbfffokkhccaaaGreatDoor
