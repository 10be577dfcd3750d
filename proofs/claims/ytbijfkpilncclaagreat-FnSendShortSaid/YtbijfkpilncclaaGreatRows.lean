/-
  NARROWER THAN 'FOR EVERY INPUT', by the rows' own cells (each row's printed sentence says how): FnExactSend: loops · FnExactCanonPut: loops.
  DERIVED. THE GIVEN ROWS OF THIS SEAT. 4 by the template 'for every input the law returns true; each argument reads behind the call as it read before'; 0 by the template 'total and deterministic' (their statements: YtbijfkpilncclaaGreatTotals.lean).
  GIVEN WITH THE SEED: the statements are not yours to turn. If you find one false, say at which input.
  Laid BY PROGRAM, IN A SANDBOX (cutbox-rows.mjs): the forced cells as the released guide's own fill.sh prints them over the translation 165c4fbef036b4d8… (all of the seat's roots in one cut). By AI agents, Wed Nov 11 2026. No macro, syntax, notation, axiom, sorry.
-/
import Derived.Test.YtbijfkpilncclaaGreatChecked
import GoSem.Claim
import GoSem.ClaimJoined
import GoSem.ClaimMapViews
import Derived.JoinedTies
import Derived.KernelRfl
namespace Go.Proofs.YtbijfkpilncclaaGreat
/- THE CELL 'sum', in the pinned program and in every row, IS THE sha256 OF THE DUMP (.gsa) THAT YtbijfkpilncclaaGreatProg.lean LOADS. Nothing in Lean hashes anything: it is a label: what it is worth is what the hold of that sum in a sandbox is worth. -/
noncomputable def Tryz.pinned : Pinned := { name := "ytbijfkpilncclaagreat", sum := "165c4fbef036b4d8e9478e71cadd925d9110fc853a73b353873feec5db2289c0", checked := Tryz.checked }
namespace Rows
def none {H : Type} : Left H := { results := [], args := [] }

/-- 'laws.FnExactSend': WHATEVER THE INPUT: true; the input reads as it did. -/
def fnExactSendSpec : ChangeSpec := { name := "fnExactSend", fn := fun _ => fun
  | [d1, d2] => { results := [.lit (.bool true)], args := [d1, d2] }
  | _ => none }
def fnExactSendRow : OpenClaim := { program := "ytbijfkpilncclaagreat", sum := "165c4fbef036b4d8e9478e71cadd925d9110fc853a73b353873feec5db2289c0", func := "loop.example/quoin/laws.FnExactSend", spec := "fnExactSend", inPlace := ["internal/abi.NoEscape"], unfollowed := true, recurses := true, loops := true, plainKeys := false, apart := false }
def FnExactSendSaid : Prop := fnExactSendRow.holds Tryz.pinned (OpenSpec.ofChange fnExactSendSpec)

/-- ITS FALSE NEIGHBOUR: 'it returns false'. Refute it at one input. -/
def fnExactSendWrong : ChangeSpec := { name := "fnExactSend", fn := fun _ => fun
  | [d1, d2] => { results := [.lit (.bool false)], args := [d1, d2] }
  | _ => none }
def FnExactSendWrongFalsely : Prop := fnExactSendRow.holds Tryz.pinned (OpenSpec.ofChange fnExactSendWrong)

/-- 'laws.FnExactCanonPut': WHATEVER THE INPUT: true; the input reads as it did. -/
def fnExactCanonPutSpec : ChangeSpec := { name := "fnExactCanonPut", fn := fun _ => fun
  | [d] => { results := [.lit (.bool true)], args := [d] }
  | _ => none }
def fnExactCanonPutRow : OpenClaim := { program := "ytbijfkpilncclaagreat", sum := "165c4fbef036b4d8e9478e71cadd925d9110fc853a73b353873feec5db2289c0", func := "loop.example/quoin/laws.FnExactCanonPut", spec := "fnExactCanonPut", inPlace := ["internal/abi.NoEscape", "internal/bytealg.MakeNoZero"], unfollowed := true, recurses := true, loops := true, plainKeys := false, apart := false }
def FnExactCanonPutSaid : Prop := fnExactCanonPutRow.holds Tryz.pinned (OpenSpec.ofChange fnExactCanonPutSpec)

/-- ITS FALSE NEIGHBOUR: 'it returns false'. Refute it at one input. -/
def fnExactCanonPutWrong : ChangeSpec := { name := "fnExactCanonPut", fn := fun _ => fun
  | [d] => { results := [.lit (.bool false)], args := [d] }
  | _ => none }
def FnExactCanonPutWrongFalsely : Prop := fnExactCanonPutRow.holds Tryz.pinned (OpenSpec.ofChange fnExactCanonPutWrong)

/-- 'laws.FnSendShort': WHATEVER THE INPUT: true; the input reads as it did. -/
def fnSendShortSpec : ChangeSpec := { name := "fnSendShort", fn := fun _ => fun
  | [d] => { results := [.lit (.bool true)], args := [d] }
  | _ => none }
def fnSendShortRow : OpenClaim := { program := "ytbijfkpilncclaagreat", sum := "165c4fbef036b4d8e9478e71cadd925d9110fc853a73b353873feec5db2289c0", func := "loop.example/quoin/laws.FnSendShort", spec := "fnSendShort", inPlace := ["internal/abi.NoEscape", "internal/bytealg.MakeNoZero"], unfollowed := true, recurses := true, plainKeys := false, apart := false }
def FnSendShortSaid : Prop := fnSendShortRow.holds Tryz.pinned (OpenSpec.ofChange fnSendShortSpec)

/-- ITS FALSE NEIGHBOUR: 'it returns false'. Refute it at one input. -/
def fnSendShortWrong : ChangeSpec := { name := "fnSendShort", fn := fun _ => fun
  | [d] => { results := [.lit (.bool false)], args := [d] }
  | _ => none }
def FnSendShortWrongFalsely : Prop := fnSendShortRow.holds Tryz.pinned (OpenSpec.ofChange fnSendShortWrong)

/-- 'laws.FnCanonPut': WHATEVER THE INPUT: true; the input reads as it did. -/
def fnCanonPutSpec : ChangeSpec := { name := "fnCanonPut", fn := fun _ => fun
  | [d] => { results := [.lit (.bool true)], args := [d] }
  | _ => none }
def fnCanonPutRow : OpenClaim := { program := "ytbijfkpilncclaagreat", sum := "165c4fbef036b4d8e9478e71cadd925d9110fc853a73b353873feec5db2289c0", func := "loop.example/quoin/laws.FnCanonPut", spec := "fnCanonPut", inPlace := ["internal/abi.NoEscape", "internal/bytealg.MakeNoZero"], unfollowed := true, recurses := true, plainKeys := false, apart := false }
def FnCanonPutSaid : Prop := fnCanonPutRow.holds Tryz.pinned (OpenSpec.ofChange fnCanonPutSpec)

/-- ITS FALSE NEIGHBOUR: 'it returns false'. Refute it at one input. -/
def fnCanonPutWrong : ChangeSpec := { name := "fnCanonPut", fn := fun _ => fun
  | [d] => { results := [.lit (.bool false)], args := [d] }
  | _ => none }
def FnCanonPutWrongFalsely : Prop := fnCanonPutRow.holds Tryz.pinned (OpenSpec.ofChange fnCanonPutWrong)

/- THE SECOND FORM. 'bulk': how many values and letters a reading holds, each counted each time it is reached (what is shared counts as often as it is met; a slice's spare places count too). A statement '..UptoSaid' is the law's where the arguments, and the package variables that the reading takes, are together of bulk at most 1048576: NARROWER than '..Said'. Prove '..Said' where nothing that the law and all that it calls make is longer than what came in: it says more and counts as full. Else prove '..UptoSaid'. A law counts once. -/
mutual
def uptoBulk {H : Type} : DataW H → Nat
  | .lit (.string bytes) => bytes.length + 1
  | .lit _ => 1
  | .nil => 1
  | .ptr d => uptoBulk d + 1
  | .slice elems spare => uptoBulkAll elems + uptoBulkAll spare + 1
  | .agg parts => uptoBulkAll parts + 1
  | .iface _ d => uptoBulk d + 1
  | .map entries => uptoBulkEntries entries + 1
  | .held _ => 1
def uptoBulkAll {H : Type} : List (DataW H) → Nat
  | [] => 0
  | d :: r => uptoBulk d + uptoBulkAll r
def uptoBulkEntries {H : Type} : List (Lit × DataW H) → Nat
  | [] => 0
  | x :: r => uptoBulkEntry x + uptoBulkEntries r
def uptoBulkEntry {H : Type} : Lit × DataW H → Nat
  | (.string bytes, d) => bytes.length + uptoBulk d + 1
  | (_, d) => uptoBulk d + 1
 end
def uptoSmall : (H : Type) → List (DataW H) → Bool := fun _ ds => decide (uptoBulkAll ds ≤ 1048576)
def OpenSpec.upto (s : _root_.Go.ChangeSpec) : _root_.Go.OpenSpec := { _root_.Go.OpenSpec.ofChange s with cond := some uptoSmall }

/-- 'laws.FnExactSend', WHERE WHAT IT READS IS OF BULK AT MOST 1048576: true; the input reads as it did. -/
def fnExactSendUptoRow : OpenClaim := { program := "ytbijfkpilncclaagreat", sum := "165c4fbef036b4d8e9478e71cadd925d9110fc853a73b353873feec5db2289c0", func := "loop.example/quoin/laws.FnExactSend", spec := "fnExactSend", inPlace := ["internal/abi.NoEscape"], unfollowed := true, recurses := true, loops := true, plainKeys := false, apart := false, narrowed := true }
def FnExactSendUptoSaid : Prop := fnExactSendUptoRow.holds Tryz.pinned (OpenSpec.upto fnExactSendSpec)

/-- 'laws.FnExactCanonPut', WHERE WHAT IT READS IS OF BULK AT MOST 1048576: true; the input reads as it did. -/
def fnExactCanonPutUptoRow : OpenClaim := { program := "ytbijfkpilncclaagreat", sum := "165c4fbef036b4d8e9478e71cadd925d9110fc853a73b353873feec5db2289c0", func := "loop.example/quoin/laws.FnExactCanonPut", spec := "fnExactCanonPut", inPlace := ["internal/abi.NoEscape", "internal/bytealg.MakeNoZero"], unfollowed := true, recurses := true, loops := true, plainKeys := false, apart := false, narrowed := true }
def FnExactCanonPutUptoSaid : Prop := fnExactCanonPutUptoRow.holds Tryz.pinned (OpenSpec.upto fnExactCanonPutSpec)

/-- 'laws.FnSendShort', WHERE WHAT IT READS IS OF BULK AT MOST 1048576: true; the input reads as it did. -/
def fnSendShortUptoRow : OpenClaim := { program := "ytbijfkpilncclaagreat", sum := "165c4fbef036b4d8e9478e71cadd925d9110fc853a73b353873feec5db2289c0", func := "loop.example/quoin/laws.FnSendShort", spec := "fnSendShort", inPlace := ["internal/abi.NoEscape", "internal/bytealg.MakeNoZero"], unfollowed := true, recurses := true, plainKeys := false, apart := false, narrowed := true }
def FnSendShortUptoSaid : Prop := fnSendShortUptoRow.holds Tryz.pinned (OpenSpec.upto fnSendShortSpec)

/-- 'laws.FnCanonPut', WHERE WHAT IT READS IS OF BULK AT MOST 1048576: true; the input reads as it did. -/
def fnCanonPutUptoRow : OpenClaim := { program := "ytbijfkpilncclaagreat", sum := "165c4fbef036b4d8e9478e71cadd925d9110fc853a73b353873feec5db2289c0", func := "loop.example/quoin/laws.FnCanonPut", spec := "fnCanonPut", inPlace := ["internal/abi.NoEscape", "internal/bytealg.MakeNoZero"], unfollowed := true, recurses := true, plainKeys := false, apart := false, narrowed := true }
def FnCanonPutUptoSaid : Prop := fnCanonPutUptoRow.holds Tryz.pinned (OpenSpec.upto fnCanonPutSpec)

end Rows
end Go.Proofs.YtbijfkpilncclaaGreat
