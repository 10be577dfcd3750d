/-
  NARROWER THAN 'FOR EVERY INPUT', by the rows' own cells (each row's printed sentence says how): FnExactAccessGet: loops · FnExactAccessPut: loops.
  DERIVED. THE GIVEN ROWS OF THIS SEAT. 2 by the template 'for every input the law returns true; each argument reads behind the call as it read before'; 0 by the template 'total and deterministic' (their statements: YtfnecflkahmjoaaTotals.lean).
  GIVEN WITH THE SEED: the statements are not yours to turn. If you find one false, say at which input.
  Laid BY PROGRAM, IN A SANDBOX (cutbox-rows.mjs): the forced cells as the released guide's own fill.sh prints them over the translation 595de80ecd0b6639… (all of the seat's roots in one cut). By AI agents, Wed Nov 11 2026. No macro, syntax, notation, axiom, sorry.
-/
import Derived.Test.YtfnecflkahmjoaaChecked
import GoSem.Claim
import GoSem.ClaimJoined
import GoSem.ClaimMapViews
import Derived.JoinedTies
import Derived.KernelRfl
namespace Go.Proofs.Ytfnecflkahmjoaa
/- THE CELL 'sum', in the pinned program and in every row, IS THE sha256 OF THE DUMP (.gsa) THAT YtfnecflkahmjoaaProg.lean LOADS. Nothing in Lean hashes anything: it is a label: what it is worth is what the hold of that sum in a sandbox is worth. -/
noncomputable def Try.pinned : Pinned := { name := "ytfnecflkahmjoaa", sum := "595de80ecd0b6639db67c15ed3c0e9712d1906956ad202202714619774c181b5", checked := Try.checked }
namespace Rows
def none {H : Type} : Left H := { results := [], args := [] }

/-- 'laws.FnExactAccessGet': WHATEVER THE INPUT: true; the input reads as it did. -/
def fnExactAccessGetSpec : ChangeSpec := { name := "fnExactAccessGet", fn := fun _ => fun
  | [d1, d2] => { results := [.lit (.bool true)], args := [d1, d2] }
  | _ => none }
def fnExactAccessGetRow : OpenClaim := { program := "ytfnecflkahmjoaa", sum := "595de80ecd0b6639db67c15ed3c0e9712d1906956ad202202714619774c181b5", func := "loop.example/quoin/laws.FnExactAccessGet", spec := "fnExactAccessGet", unfollowed := true, recurses := true, loops := true, apart := false }
def FnExactAccessGetSaid : Prop := fnExactAccessGetRow.holds Try.pinned (OpenSpec.ofChange fnExactAccessGetSpec)

/-- ITS FALSE NEIGHBOUR: 'it returns false'. Refute it at one input. -/
def fnExactAccessGetWrong : ChangeSpec := { name := "fnExactAccessGet", fn := fun _ => fun
  | [d1, d2] => { results := [.lit (.bool false)], args := [d1, d2] }
  | _ => none }
def FnExactAccessGetWrongFalsely : Prop := fnExactAccessGetRow.holds Try.pinned (OpenSpec.ofChange fnExactAccessGetWrong)

/-- 'laws.FnExactAccessPut': WHATEVER THE INPUT: true; the input reads as it did. -/
def fnExactAccessPutSpec : ChangeSpec := { name := "fnExactAccessPut", fn := fun _ => fun
  | [d1, d2, d3] => { results := [.lit (.bool true)], args := [d1, d2, d3] }
  | _ => none }
def fnExactAccessPutRow : OpenClaim := { program := "ytfnecflkahmjoaa", sum := "595de80ecd0b6639db67c15ed3c0e9712d1906956ad202202714619774c181b5", func := "loop.example/quoin/laws.FnExactAccessPut", spec := "fnExactAccessPut", unfollowed := true, recurses := true, loops := true, apart := false }
def FnExactAccessPutSaid : Prop := fnExactAccessPutRow.holds Try.pinned (OpenSpec.ofChange fnExactAccessPutSpec)

/-- ITS FALSE NEIGHBOUR: 'it returns false'. Refute it at one input. -/
def fnExactAccessPutWrong : ChangeSpec := { name := "fnExactAccessPut", fn := fun _ => fun
  | [d1, d2, d3] => { results := [.lit (.bool false)], args := [d1, d2, d3] }
  | _ => none }
def FnExactAccessPutWrongFalsely : Prop := fnExactAccessPutRow.holds Try.pinned (OpenSpec.ofChange fnExactAccessPutWrong)

/- THE SECOND FORM. 'bulk': how many values and letters a reading holds, each counted each time it is reached (what is shared counts as often as it is met; a slice's spare places count too). A statement '..UptoSaid' is the law's where the arguments, and the package variables that the reading takes, are together of bulk at most 1048576: NARROWER than '..Said'. Prove '..Said' where nothing that the law and all that it calls make is longer than what came in: it says more and counts as full. Else prove '..UptoSaid'. A law counts once. -/
mutual
def uptoBulk {H : Type} : DataW H → Nat
  | .lit (.string bytes) => bytes.length + 1
  | .lit _ => 1
  | .nil => 1
  | .ptr d => uptoBulk d + 1
  | .slice elems spare => uptoBulkAll elems + uptoBulkAll spare + 1
  | .agg parts => uptoBulkAll parts + 1
  | .iface _ d => uptoBulk d + 1
  | .map entries => uptoBulkEntries entries + 1
  | .held _ => 1
def uptoBulkAll {H : Type} : List (DataW H) → Nat
  | [] => 0
  | d :: r => uptoBulk d + uptoBulkAll r
def uptoBulkEntries {H : Type} : List (Lit × DataW H) → Nat
  | [] => 0
  | x :: r => uptoBulkEntry x + uptoBulkEntries r
def uptoBulkEntry {H : Type} : Lit × DataW H → Nat
  | (.string bytes, d) => bytes.length + uptoBulk d + 1
  | (_, d) => uptoBulk d + 1
 end
def uptoSmall : (H : Type) → List (DataW H) → Bool := fun _ ds => decide (uptoBulkAll ds ≤ 1048576)
def OpenSpec.upto (s : _root_.Go.ChangeSpec) : _root_.Go.OpenSpec := { _root_.Go.OpenSpec.ofChange s with cond := some uptoSmall }

/-- 'laws.FnExactAccessGet', WHERE WHAT IT READS IS OF BULK AT MOST 1048576: true; the input reads as it did. -/
def fnExactAccessGetUptoRow : OpenClaim := { program := "ytfnecflkahmjoaa", sum := "595de80ecd0b6639db67c15ed3c0e9712d1906956ad202202714619774c181b5", func := "loop.example/quoin/laws.FnExactAccessGet", spec := "fnExactAccessGet", unfollowed := true, recurses := true, loops := true, apart := false, narrowed := true }
def FnExactAccessGetUptoSaid : Prop := fnExactAccessGetUptoRow.holds Try.pinned (OpenSpec.upto fnExactAccessGetSpec)

/-- 'laws.FnExactAccessPut', WHERE WHAT IT READS IS OF BULK AT MOST 1048576: true; the input reads as it did. -/
def fnExactAccessPutUptoRow : OpenClaim := { program := "ytfnecflkahmjoaa", sum := "595de80ecd0b6639db67c15ed3c0e9712d1906956ad202202714619774c181b5", func := "loop.example/quoin/laws.FnExactAccessPut", spec := "fnExactAccessPut", unfollowed := true, recurses := true, loops := true, apart := false, narrowed := true }
def FnExactAccessPutUptoSaid : Prop := fnExactAccessPutUptoRow.holds Try.pinned (OpenSpec.upto fnExactAccessPutSpec)

end Rows
end Go.Proofs.Ytfnecflkahmjoaa
