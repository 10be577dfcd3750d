/-
  NARROWER THAN 'FOR EVERY INPUT', by the rows' own cells (each row's printed sentence says how): FnExactNodeSame: loops · FnExactDatumSame: loops.
  DERIVED. THE GIVEN ROWS OF THIS SEAT. 4 by the template 'for every input the law returns true; each argument reads behind the call as it read before'; 0 by the template 'total and deterministic' (their statements: YtkimkhgigbejkabTotals.lean).
  GIVEN WITH THE SEED: the statements are not yours to turn. If you find one false, say at which input.
  Laid BY PROGRAM, IN A SANDBOX (cutbox-rows.mjs): the forced cells as the released guide's own fill.sh prints them over the translation bb2782fcc524cacd… (all of the seat's roots in one cut). By AI agents, Wed Nov 11 2026. No macro, syntax, notation, axiom, sorry.
-/
import Derived.Test.YtkimkhgigbejkabChecked
import GoSem.Claim
import GoSem.ClaimJoined
import GoSem.ClaimMapViews
import Derived.JoinedTies
import Derived.KernelRfl
namespace Go.Proofs.Ytkimkhgigbejkab
/- THE CELL 'sum', in the pinned program and in every row, IS THE sha256 OF THE DUMP (.gsa) THAT YtkimkhgigbejkabProg.lean LOADS. Nothing in Lean hashes anything: it is a label: what it is worth is what the hold of that sum in a sandbox is worth. -/
noncomputable def Try.pinned : Pinned := { name := "ytkimkhgigbejkab", sum := "bb2782fcc524cacd1202c9773f401eb1e7bc94b9579ddc7ed9e27ce05e12b02d", checked := Try.checked }
namespace Rows
def none {H : Type} : Left H := { results := [], args := [] }

/-- 'laws.FnNodeSame': WHATEVER THE INPUT: true; the input reads as it did. -/
def fnNodeSameSpec : ChangeSpec := { name := "fnNodeSame", fn := fun _ => fun
  | [d] => { results := [.lit (.bool true)], args := [d] }
  | _ => none }
def fnNodeSameRow : OpenClaim := { program := "ytkimkhgigbejkab", sum := "bb2782fcc524cacd1202c9773f401eb1e7bc94b9579ddc7ed9e27ce05e12b02d", func := "loop.example/quoin/laws.FnNodeSame", spec := "fnNodeSame", unfollowed := true, recurses := true, plainKeys := false, apart := false }
def FnNodeSameSaid : Prop := fnNodeSameRow.holds Try.pinned (OpenSpec.ofChange fnNodeSameSpec)

/-- ITS FALSE NEIGHBOUR: 'it returns false'. Refute it at one input. -/
def fnNodeSameWrong : ChangeSpec := { name := "fnNodeSame", fn := fun _ => fun
  | [d] => { results := [.lit (.bool false)], args := [d] }
  | _ => none }
def FnNodeSameWrongFalsely : Prop := fnNodeSameRow.holds Try.pinned (OpenSpec.ofChange fnNodeSameWrong)

/-- 'laws.FnExactNodeSame': WHATEVER THE INPUT: true; the input reads as it did. -/
def fnExactNodeSameSpec : ChangeSpec := { name := "fnExactNodeSame", fn := fun _ => fun
  | [d1, d2] => { results := [.lit (.bool true)], args := [d1, d2] }
  | _ => none }
def fnExactNodeSameRow : OpenClaim := { program := "ytkimkhgigbejkab", sum := "bb2782fcc524cacd1202c9773f401eb1e7bc94b9579ddc7ed9e27ce05e12b02d", func := "loop.example/quoin/laws.FnExactNodeSame", spec := "fnExactNodeSame", unfollowed := true, recurses := true, loops := true, plainKeys := false, apart := false }
def FnExactNodeSameSaid : Prop := fnExactNodeSameRow.holds Try.pinned (OpenSpec.ofChange fnExactNodeSameSpec)

/-- ITS FALSE NEIGHBOUR: 'it returns false'. Refute it at one input. -/
def fnExactNodeSameWrong : ChangeSpec := { name := "fnExactNodeSame", fn := fun _ => fun
  | [d1, d2] => { results := [.lit (.bool false)], args := [d1, d2] }
  | _ => none }
def FnExactNodeSameWrongFalsely : Prop := fnExactNodeSameRow.holds Try.pinned (OpenSpec.ofChange fnExactNodeSameWrong)

/-- 'laws.FnExactDatumSame': WHATEVER THE INPUT: true; the input reads as it did. -/
def fnExactDatumSameSpec : ChangeSpec := { name := "fnExactDatumSame", fn := fun _ => fun
  | [d1, d2] => { results := [.lit (.bool true)], args := [d1, d2] }
  | _ => none }
def fnExactDatumSameRow : OpenClaim := { program := "ytkimkhgigbejkab", sum := "bb2782fcc524cacd1202c9773f401eb1e7bc94b9579ddc7ed9e27ce05e12b02d", func := "loop.example/quoin/laws.FnExactDatumSame", spec := "fnExactDatumSame", unfollowed := true, recurses := true, loops := true, plainKeys := false, apart := false }
def FnExactDatumSameSaid : Prop := fnExactDatumSameRow.holds Try.pinned (OpenSpec.ofChange fnExactDatumSameSpec)

/-- ITS FALSE NEIGHBOUR: 'it returns false'. Refute it at one input. -/
def fnExactDatumSameWrong : ChangeSpec := { name := "fnExactDatumSame", fn := fun _ => fun
  | [d1, d2] => { results := [.lit (.bool false)], args := [d1, d2] }
  | _ => none }
def FnExactDatumSameWrongFalsely : Prop := fnExactDatumSameRow.holds Try.pinned (OpenSpec.ofChange fnExactDatumSameWrong)

/-- 'laws.FnExactIdlCheck': WHATEVER THE INPUT: true; the input reads as it did. -/
def fnExactIdlCheckSpec : ChangeSpec := { name := "fnExactIdlCheck", fn := fun _ => fun
  | [d] => { results := [.lit (.bool true)], args := [d] }
  | _ => none }
def fnExactIdlCheckRow : OpenClaim := { program := "ytkimkhgigbejkab", sum := "bb2782fcc524cacd1202c9773f401eb1e7bc94b9579ddc7ed9e27ce05e12b02d", func := "loop.example/quoin/laws.FnExactIdlCheck", spec := "fnExactIdlCheck", unfollowed := true, recurses := true, plainKeys := false, apart := false }
def FnExactIdlCheckSaid : Prop := fnExactIdlCheckRow.holds Try.pinned (OpenSpec.ofChange fnExactIdlCheckSpec)

/-- ITS FALSE NEIGHBOUR: 'it returns false'. Refute it at one input. -/
def fnExactIdlCheckWrong : ChangeSpec := { name := "fnExactIdlCheck", fn := fun _ => fun
  | [d] => { results := [.lit (.bool false)], args := [d] }
  | _ => none }
def FnExactIdlCheckWrongFalsely : Prop := fnExactIdlCheckRow.holds Try.pinned (OpenSpec.ofChange fnExactIdlCheckWrong)

/- THE SECOND FORM. 'bulk': how many values and letters a reading holds, each counted each time it is reached (what is shared counts as often as it is met; a slice's spare places count too). A statement '..UptoSaid' is the law's where the arguments, and the package variables that the reading takes, are together of bulk at most 1048576: NARROWER than '..Said'. Prove '..Said' where nothing that the law and all that it calls make is longer than what came in: it says more and counts as full. Else prove '..UptoSaid'. A law counts once. -/
mutual
def uptoBulk {H : Type} : DataW H → Nat
  | .lit (.string bytes) => bytes.length + 1
  | .lit _ => 1
  | .nil => 1
  | .ptr d => uptoBulk d + 1
  | .slice elems spare => uptoBulkAll elems + uptoBulkAll spare + 1
  | .agg parts => uptoBulkAll parts + 1
  | .iface _ d => uptoBulk d + 1
  | .map entries => uptoBulkEntries entries + 1
  | .held _ => 1
def uptoBulkAll {H : Type} : List (DataW H) → Nat
  | [] => 0
  | d :: r => uptoBulk d + uptoBulkAll r
def uptoBulkEntries {H : Type} : List (Lit × DataW H) → Nat
  | [] => 0
  | x :: r => uptoBulkEntry x + uptoBulkEntries r
def uptoBulkEntry {H : Type} : Lit × DataW H → Nat
  | (.string bytes, d) => bytes.length + uptoBulk d + 1
  | (_, d) => uptoBulk d + 1
 end
def uptoSmall : (H : Type) → List (DataW H) → Bool := fun _ ds => decide (uptoBulkAll ds ≤ 1048576)
def OpenSpec.upto (s : _root_.Go.ChangeSpec) : _root_.Go.OpenSpec := { _root_.Go.OpenSpec.ofChange s with cond := some uptoSmall }

/-- 'laws.FnNodeSame', WHERE WHAT IT READS IS OF BULK AT MOST 1048576: true; the input reads as it did. -/
def fnNodeSameUptoRow : OpenClaim := { program := "ytkimkhgigbejkab", sum := "bb2782fcc524cacd1202c9773f401eb1e7bc94b9579ddc7ed9e27ce05e12b02d", func := "loop.example/quoin/laws.FnNodeSame", spec := "fnNodeSame", unfollowed := true, recurses := true, plainKeys := false, apart := false, narrowed := true }
def FnNodeSameUptoSaid : Prop := fnNodeSameUptoRow.holds Try.pinned (OpenSpec.upto fnNodeSameSpec)

/-- 'laws.FnExactNodeSame', WHERE WHAT IT READS IS OF BULK AT MOST 1048576: true; the input reads as it did. -/
def fnExactNodeSameUptoRow : OpenClaim := { program := "ytkimkhgigbejkab", sum := "bb2782fcc524cacd1202c9773f401eb1e7bc94b9579ddc7ed9e27ce05e12b02d", func := "loop.example/quoin/laws.FnExactNodeSame", spec := "fnExactNodeSame", unfollowed := true, recurses := true, loops := true, plainKeys := false, apart := false, narrowed := true }
def FnExactNodeSameUptoSaid : Prop := fnExactNodeSameUptoRow.holds Try.pinned (OpenSpec.upto fnExactNodeSameSpec)

/-- 'laws.FnExactDatumSame', WHERE WHAT IT READS IS OF BULK AT MOST 1048576: true; the input reads as it did. -/
def fnExactDatumSameUptoRow : OpenClaim := { program := "ytkimkhgigbejkab", sum := "bb2782fcc524cacd1202c9773f401eb1e7bc94b9579ddc7ed9e27ce05e12b02d", func := "loop.example/quoin/laws.FnExactDatumSame", spec := "fnExactDatumSame", unfollowed := true, recurses := true, loops := true, plainKeys := false, apart := false, narrowed := true }
def FnExactDatumSameUptoSaid : Prop := fnExactDatumSameUptoRow.holds Try.pinned (OpenSpec.upto fnExactDatumSameSpec)

/-- 'laws.FnExactIdlCheck', WHERE WHAT IT READS IS OF BULK AT MOST 1048576: true; the input reads as it did. -/
def fnExactIdlCheckUptoRow : OpenClaim := { program := "ytkimkhgigbejkab", sum := "bb2782fcc524cacd1202c9773f401eb1e7bc94b9579ddc7ed9e27ce05e12b02d", func := "loop.example/quoin/laws.FnExactIdlCheck", spec := "fnExactIdlCheck", unfollowed := true, recurses := true, plainKeys := false, apart := false, narrowed := true }
def FnExactIdlCheckUptoSaid : Prop := fnExactIdlCheckUptoRow.holds Try.pinned (OpenSpec.upto fnExactIdlCheckSpec)

end Rows
end Go.Proofs.Ytkimkhgigbejkab
