/-
  No cell of these rows narrows 'for every input' (looked for: loops, veiled, ifaces, maps, wideKeys, modest, calm, conditions, laid).
  DERIVED. THE GIVEN ROWS OF THIS SEAT. 9 by the template 'for every input the law returns true; each argument reads behind the call as it read before'; 0 by the template 'total and deterministic' (their statements: YtgeldgikjcihgaaTotals.lean).
  GIVEN WITH THE SEED: the statements are not yours to turn. If you find one false, say at which input.
  Laid BY PROGRAM, IN A SANDBOX (cutbox-rows.mjs): the forced cells as the released guide's own fill.sh prints them over the translation df43697a6b1d38e2… (all of the seat's roots in one cut). By AI agents, Wed Nov 11 2026. No macro, syntax, notation, axiom, sorry.
-/
import Derived.Test.YtgeldgikjcihgaaChecked
import GoSem.Claim
import GoSem.ClaimJoined
import GoSem.ClaimMapViews
import Derived.JoinedTies
import Derived.KernelRfl
namespace Go.Proofs.Ytgeldgikjcihgaa
/- THE CELL 'sum', in the pinned program and in every row, IS THE sha256 OF THE DUMP (.gsa) THAT YtgeldgikjcihgaaProg.lean LOADS. Nothing in Lean hashes anything: it is a label: what it is worth is what the hold of that sum in a sandbox is worth. -/
noncomputable def Try.pinned : Pinned := { name := "ytgeldgikjcihgaa", sum := "df43697a6b1d38e243ebdf10edbafdad0b5948bc6a453cd92c8e1fce40e91041", checked := Try.checked }
namespace Rows
def none {H : Type} : Left H := { results := [], args := [] }

/-- 'laws.FnPack': WHATEVER THE INPUT: true; the input reads as it did. -/
def fnPackSpec : ChangeSpec := { name := "fnPack", fn := fun _ => fun
  | [d] => { results := [.lit (.bool true)], args := [d] }
  | _ => none }
def fnPackRow : OpenClaim := { program := "ytgeldgikjcihgaa", sum := "df43697a6b1d38e243ebdf10edbafdad0b5948bc6a453cd92c8e1fce40e91041", func := "loop.example/quoin/laws.FnPack", spec := "fnPack", inPlace := ["internal/abi.NoEscape", "internal/bytealg.MakeNoZero"], unfollowed := true, recurses := true, plainKeys := false, apart := false }
def FnPackSaid : Prop := fnPackRow.holds Try.pinned (OpenSpec.ofChange fnPackSpec)

/-- ITS FALSE NEIGHBOUR: 'it returns false'. Refute it at one input. -/
def fnPackWrong : ChangeSpec := { name := "fnPack", fn := fun _ => fun
  | [d] => { results := [.lit (.bool false)], args := [d] }
  | _ => none }
def FnPackWrongFalsely : Prop := fnPackRow.holds Try.pinned (OpenSpec.ofChange fnPackWrong)

/-- 'laws.FnUnpack': WHATEVER THE INPUT: true; the input reads as it did. -/
def fnUnpackSpec : ChangeSpec := { name := "fnUnpack", fn := fun _ => fun
  | [d] => { results := [.lit (.bool true)], args := [d] }
  | _ => none }
def fnUnpackRow : OpenClaim := { program := "ytgeldgikjcihgaa", sum := "df43697a6b1d38e243ebdf10edbafdad0b5948bc6a453cd92c8e1fce40e91041", func := "loop.example/quoin/laws.FnUnpack", spec := "fnUnpack", inPlace := ["internal/abi.NoEscape", "internal/bytealg.MakeNoZero"], unfollowed := true, recurses := true, plainKeys := false, apart := false }
def FnUnpackSaid : Prop := fnUnpackRow.holds Try.pinned (OpenSpec.ofChange fnUnpackSpec)

/-- ITS FALSE NEIGHBOUR: 'it returns false'. Refute it at one input. -/
def fnUnpackWrong : ChangeSpec := { name := "fnUnpack", fn := fun _ => fun
  | [d] => { results := [.lit (.bool false)], args := [d] }
  | _ => none }
def FnUnpackWrongFalsely : Prop := fnUnpackRow.holds Try.pinned (OpenSpec.ofChange fnUnpackWrong)

/-- 'laws.FnPackJoin': WHATEVER THE INPUT: true; the input reads as it did. -/
def fnPackJoinSpec : ChangeSpec := { name := "fnPackJoin", fn := fun _ => fun
  | [d1, d2] => { results := [.lit (.bool true)], args := [d1, d2] }
  | _ => none }
def fnPackJoinRow : OpenClaim := { program := "ytgeldgikjcihgaa", sum := "df43697a6b1d38e243ebdf10edbafdad0b5948bc6a453cd92c8e1fce40e91041", func := "loop.example/quoin/laws.FnPackJoin", spec := "fnPackJoin", inPlace := ["internal/abi.NoEscape", "internal/bytealg.MakeNoZero"], unfollowed := true, recurses := true, plainKeys := false, apart := false }
def FnPackJoinSaid : Prop := fnPackJoinRow.holds Try.pinned (OpenSpec.ofChange fnPackJoinSpec)

/-- ITS FALSE NEIGHBOUR: 'it returns false'. Refute it at one input. -/
def fnPackJoinWrong : ChangeSpec := { name := "fnPackJoin", fn := fun _ => fun
  | [d1, d2] => { results := [.lit (.bool false)], args := [d1, d2] }
  | _ => none }
def FnPackJoinWrongFalsely : Prop := fnPackJoinRow.holds Try.pinned (OpenSpec.ofChange fnPackJoinWrong)

/-- 'laws.FnPackZero': WHATEVER THE INPUT: true; the input reads as it did. -/
def fnPackZeroSpec : ChangeSpec := { name := "fnPackZero", fn := fun _ => fun
  | [d] => { results := [.lit (.bool true)], args := [d] }
  | _ => none }
def fnPackZeroRow : OpenClaim := { program := "ytgeldgikjcihgaa", sum := "df43697a6b1d38e243ebdf10edbafdad0b5948bc6a453cd92c8e1fce40e91041", func := "loop.example/quoin/laws.FnPackZero", spec := "fnPackZero", inPlace := ["internal/abi.NoEscape", "internal/bytealg.MakeNoZero"], unfollowed := true, recurses := true, plainKeys := false, apart := false }
def FnPackZeroSaid : Prop := fnPackZeroRow.holds Try.pinned (OpenSpec.ofChange fnPackZeroSpec)

/-- ITS FALSE NEIGHBOUR: 'it returns false'. Refute it at one input. -/
def fnPackZeroWrong : ChangeSpec := { name := "fnPackZero", fn := fun _ => fun
  | [d] => { results := [.lit (.bool false)], args := [d] }
  | _ => none }
def FnPackZeroWrongFalsely : Prop := fnPackZeroRow.holds Try.pinned (OpenSpec.ofChange fnPackZeroWrong)

/-- 'laws.FnExactPack': WHATEVER THE INPUT: true; the input reads as it did. -/
def fnExactPackSpec : ChangeSpec := { name := "fnExactPack", fn := fun _ => fun
  | [d] => { results := [.lit (.bool true)], args := [d] }
  | _ => none }
def fnExactPackRow : OpenClaim := { program := "ytgeldgikjcihgaa", sum := "df43697a6b1d38e243ebdf10edbafdad0b5948bc6a453cd92c8e1fce40e91041", func := "loop.example/quoin/laws.FnExactPack", spec := "fnExactPack", inPlace := ["internal/abi.NoEscape"], unfollowed := true, recurses := true, plainKeys := false, apart := false }
def FnExactPackSaid : Prop := fnExactPackRow.holds Try.pinned (OpenSpec.ofChange fnExactPackSpec)

/-- ITS FALSE NEIGHBOUR: 'it returns false'. Refute it at one input. -/
def fnExactPackWrong : ChangeSpec := { name := "fnExactPack", fn := fun _ => fun
  | [d] => { results := [.lit (.bool false)], args := [d] }
  | _ => none }
def FnExactPackWrongFalsely : Prop := fnExactPackRow.holds Try.pinned (OpenSpec.ofChange fnExactPackWrong)

/-- 'laws.FnExactUnpack': WHATEVER THE INPUT: true; the input reads as it did. -/
def fnExactUnpackSpec : ChangeSpec := { name := "fnExactUnpack", fn := fun _ => fun
  | [d] => { results := [.lit (.bool true)], args := [d] }
  | _ => none }
def fnExactUnpackRow : OpenClaim := { program := "ytgeldgikjcihgaa", sum := "df43697a6b1d38e243ebdf10edbafdad0b5948bc6a453cd92c8e1fce40e91041", func := "loop.example/quoin/laws.FnExactUnpack", spec := "fnExactUnpack", inPlace := ["internal/abi.NoEscape", "internal/bytealg.MakeNoZero"], unfollowed := true, recurses := true, plainKeys := false, apart := false }
def FnExactUnpackSaid : Prop := fnExactUnpackRow.holds Try.pinned (OpenSpec.ofChange fnExactUnpackSpec)

/-- ITS FALSE NEIGHBOUR: 'it returns false'. Refute it at one input. -/
def fnExactUnpackWrong : ChangeSpec := { name := "fnExactUnpack", fn := fun _ => fun
  | [d] => { results := [.lit (.bool false)], args := [d] }
  | _ => none }
def FnExactUnpackWrongFalsely : Prop := fnExactUnpackRow.holds Try.pinned (OpenSpec.ofChange fnExactUnpackWrong)

/-- 'laws.FnNodeOk': WHATEVER THE INPUT: true; the input reads as it did. -/
def fnNodeOkSpec : ChangeSpec := { name := "fnNodeOk", fn := fun _ => fun
  | [d] => { results := [.lit (.bool true)], args := [d] }
  | _ => none }
def fnNodeOkRow : OpenClaim := { program := "ytgeldgikjcihgaa", sum := "df43697a6b1d38e243ebdf10edbafdad0b5948bc6a453cd92c8e1fce40e91041", func := "loop.example/quoin/laws.FnNodeOk", spec := "fnNodeOk", recurses := true, plainKeys := false, apart := false }
def FnNodeOkSaid : Prop := fnNodeOkRow.holds Try.pinned (OpenSpec.ofChange fnNodeOkSpec)

/-- ITS FALSE NEIGHBOUR: 'it returns false'. Refute it at one input. -/
def fnNodeOkWrong : ChangeSpec := { name := "fnNodeOk", fn := fun _ => fun
  | [d] => { results := [.lit (.bool false)], args := [d] }
  | _ => none }
def FnNodeOkWrongFalsely : Prop := fnNodeOkRow.holds Try.pinned (OpenSpec.ofChange fnNodeOkWrong)

/-- 'laws.FnNodeSame': WHATEVER THE INPUT: true; the input reads as it did. -/
def fnNodeSameSpec : ChangeSpec := { name := "fnNodeSame", fn := fun _ => fun
  | [d] => { results := [.lit (.bool true)], args := [d] }
  | _ => none }
def fnNodeSameRow : OpenClaim := { program := "ytgeldgikjcihgaa", sum := "df43697a6b1d38e243ebdf10edbafdad0b5948bc6a453cd92c8e1fce40e91041", func := "loop.example/quoin/laws.FnNodeSame", spec := "fnNodeSame", recurses := true, plainKeys := false, apart := false }
def FnNodeSameSaid : Prop := fnNodeSameRow.holds Try.pinned (OpenSpec.ofChange fnNodeSameSpec)

/-- ITS FALSE NEIGHBOUR: 'it returns false'. Refute it at one input. -/
def fnNodeSameWrong : ChangeSpec := { name := "fnNodeSame", fn := fun _ => fun
  | [d] => { results := [.lit (.bool false)], args := [d] }
  | _ => none }
def FnNodeSameWrongFalsely : Prop := fnNodeSameRow.holds Try.pinned (OpenSpec.ofChange fnNodeSameWrong)

/-- 'laws.FnNodeWords': WHATEVER THE INPUT: true; the input reads as it did. -/
def fnNodeWordsSpec : ChangeSpec := { name := "fnNodeWords", fn := fun _ => fun
  | [d] => { results := [.lit (.bool true)], args := [d] }
  | _ => none }
def fnNodeWordsRow : OpenClaim := { program := "ytgeldgikjcihgaa", sum := "df43697a6b1d38e243ebdf10edbafdad0b5948bc6a453cd92c8e1fce40e91041", func := "loop.example/quoin/laws.FnNodeWords", spec := "fnNodeWords", inPlace := ["internal/abi.NoEscape"], unfollowed := true, recurses := true, plainKeys := false, apart := false }
def FnNodeWordsSaid : Prop := fnNodeWordsRow.holds Try.pinned (OpenSpec.ofChange fnNodeWordsSpec)

/-- ITS FALSE NEIGHBOUR: 'it returns false'. Refute it at one input. -/
def fnNodeWordsWrong : ChangeSpec := { name := "fnNodeWords", fn := fun _ => fun
  | [d] => { results := [.lit (.bool false)], args := [d] }
  | _ => none }
def FnNodeWordsWrongFalsely : Prop := fnNodeWordsRow.holds Try.pinned (OpenSpec.ofChange fnNodeWordsWrong)

/- THE SECOND FORM. 'bulk': how many values and letters a reading holds, each counted each time it is reached (what is shared counts as often as it is met; a slice's spare places count too). A statement '..UptoSaid' is the law's where the arguments, and the package variables that the reading takes, are together of bulk at most 1048576: NARROWER than '..Said'. Prove '..Said' where nothing that the law and all that it calls make is longer than what came in: it says more and counts as full. Else prove '..UptoSaid'. A law counts once. -/
mutual
def uptoBulk {H : Type} : DataW H → Nat
  | .lit (.string bytes) => bytes.length + 1
  | .lit _ => 1
  | .nil => 1
  | .ptr d => uptoBulk d + 1
  | .slice elems spare => uptoBulkAll elems + uptoBulkAll spare + 1
  | .agg parts => uptoBulkAll parts + 1
  | .iface _ d => uptoBulk d + 1
  | .map entries => uptoBulkEntries entries + 1
  | .held _ => 1
def uptoBulkAll {H : Type} : List (DataW H) → Nat
  | [] => 0
  | d :: r => uptoBulk d + uptoBulkAll r
def uptoBulkEntries {H : Type} : List (Lit × DataW H) → Nat
  | [] => 0
  | x :: r => uptoBulkEntry x + uptoBulkEntries r
def uptoBulkEntry {H : Type} : Lit × DataW H → Nat
  | (.string bytes, d) => bytes.length + uptoBulk d + 1
  | (_, d) => uptoBulk d + 1
 end
def uptoSmall : (H : Type) → List (DataW H) → Bool := fun _ ds => decide (uptoBulkAll ds ≤ 1048576)
def OpenSpec.upto (s : _root_.Go.ChangeSpec) : _root_.Go.OpenSpec := { _root_.Go.OpenSpec.ofChange s with cond := some uptoSmall }

/-- 'laws.FnPack', WHERE WHAT IT READS IS OF BULK AT MOST 1048576: true; the input reads as it did. -/
def fnPackUptoRow : OpenClaim := { program := "ytgeldgikjcihgaa", sum := "df43697a6b1d38e243ebdf10edbafdad0b5948bc6a453cd92c8e1fce40e91041", func := "loop.example/quoin/laws.FnPack", spec := "fnPack", inPlace := ["internal/abi.NoEscape", "internal/bytealg.MakeNoZero"], unfollowed := true, recurses := true, plainKeys := false, apart := false, narrowed := true }
def FnPackUptoSaid : Prop := fnPackUptoRow.holds Try.pinned (OpenSpec.upto fnPackSpec)

/-- 'laws.FnUnpack', WHERE WHAT IT READS IS OF BULK AT MOST 1048576: true; the input reads as it did. -/
def fnUnpackUptoRow : OpenClaim := { program := "ytgeldgikjcihgaa", sum := "df43697a6b1d38e243ebdf10edbafdad0b5948bc6a453cd92c8e1fce40e91041", func := "loop.example/quoin/laws.FnUnpack", spec := "fnUnpack", inPlace := ["internal/abi.NoEscape", "internal/bytealg.MakeNoZero"], unfollowed := true, recurses := true, plainKeys := false, apart := false, narrowed := true }
def FnUnpackUptoSaid : Prop := fnUnpackUptoRow.holds Try.pinned (OpenSpec.upto fnUnpackSpec)

/-- 'laws.FnPackJoin', WHERE WHAT IT READS IS OF BULK AT MOST 1048576: true; the input reads as it did. -/
def fnPackJoinUptoRow : OpenClaim := { program := "ytgeldgikjcihgaa", sum := "df43697a6b1d38e243ebdf10edbafdad0b5948bc6a453cd92c8e1fce40e91041", func := "loop.example/quoin/laws.FnPackJoin", spec := "fnPackJoin", inPlace := ["internal/abi.NoEscape", "internal/bytealg.MakeNoZero"], unfollowed := true, recurses := true, plainKeys := false, apart := false, narrowed := true }
def FnPackJoinUptoSaid : Prop := fnPackJoinUptoRow.holds Try.pinned (OpenSpec.upto fnPackJoinSpec)

/-- 'laws.FnPackZero', WHERE WHAT IT READS IS OF BULK AT MOST 1048576: true; the input reads as it did. -/
def fnPackZeroUptoRow : OpenClaim := { program := "ytgeldgikjcihgaa", sum := "df43697a6b1d38e243ebdf10edbafdad0b5948bc6a453cd92c8e1fce40e91041", func := "loop.example/quoin/laws.FnPackZero", spec := "fnPackZero", inPlace := ["internal/abi.NoEscape", "internal/bytealg.MakeNoZero"], unfollowed := true, recurses := true, plainKeys := false, apart := false, narrowed := true }
def FnPackZeroUptoSaid : Prop := fnPackZeroUptoRow.holds Try.pinned (OpenSpec.upto fnPackZeroSpec)

/-- 'laws.FnExactPack', WHERE WHAT IT READS IS OF BULK AT MOST 1048576: true; the input reads as it did. -/
def fnExactPackUptoRow : OpenClaim := { program := "ytgeldgikjcihgaa", sum := "df43697a6b1d38e243ebdf10edbafdad0b5948bc6a453cd92c8e1fce40e91041", func := "loop.example/quoin/laws.FnExactPack", spec := "fnExactPack", inPlace := ["internal/abi.NoEscape"], unfollowed := true, recurses := true, plainKeys := false, apart := false, narrowed := true }
def FnExactPackUptoSaid : Prop := fnExactPackUptoRow.holds Try.pinned (OpenSpec.upto fnExactPackSpec)

/-- 'laws.FnExactUnpack', WHERE WHAT IT READS IS OF BULK AT MOST 1048576: true; the input reads as it did. -/
def fnExactUnpackUptoRow : OpenClaim := { program := "ytgeldgikjcihgaa", sum := "df43697a6b1d38e243ebdf10edbafdad0b5948bc6a453cd92c8e1fce40e91041", func := "loop.example/quoin/laws.FnExactUnpack", spec := "fnExactUnpack", inPlace := ["internal/abi.NoEscape", "internal/bytealg.MakeNoZero"], unfollowed := true, recurses := true, plainKeys := false, apart := false, narrowed := true }
def FnExactUnpackUptoSaid : Prop := fnExactUnpackUptoRow.holds Try.pinned (OpenSpec.upto fnExactUnpackSpec)

/-- 'laws.FnNodeOk', WHERE WHAT IT READS IS OF BULK AT MOST 1048576: true; the input reads as it did. -/
def fnNodeOkUptoRow : OpenClaim := { program := "ytgeldgikjcihgaa", sum := "df43697a6b1d38e243ebdf10edbafdad0b5948bc6a453cd92c8e1fce40e91041", func := "loop.example/quoin/laws.FnNodeOk", spec := "fnNodeOk", recurses := true, plainKeys := false, apart := false, narrowed := true }
def FnNodeOkUptoSaid : Prop := fnNodeOkUptoRow.holds Try.pinned (OpenSpec.upto fnNodeOkSpec)

/-- 'laws.FnNodeSame', WHERE WHAT IT READS IS OF BULK AT MOST 1048576: true; the input reads as it did. -/
def fnNodeSameUptoRow : OpenClaim := { program := "ytgeldgikjcihgaa", sum := "df43697a6b1d38e243ebdf10edbafdad0b5948bc6a453cd92c8e1fce40e91041", func := "loop.example/quoin/laws.FnNodeSame", spec := "fnNodeSame", recurses := true, plainKeys := false, apart := false, narrowed := true }
def FnNodeSameUptoSaid : Prop := fnNodeSameUptoRow.holds Try.pinned (OpenSpec.upto fnNodeSameSpec)

/-- 'laws.FnNodeWords', WHERE WHAT IT READS IS OF BULK AT MOST 1048576: true; the input reads as it did. -/
def fnNodeWordsUptoRow : OpenClaim := { program := "ytgeldgikjcihgaa", sum := "df43697a6b1d38e243ebdf10edbafdad0b5948bc6a453cd92c8e1fce40e91041", func := "loop.example/quoin/laws.FnNodeWords", spec := "fnNodeWords", inPlace := ["internal/abi.NoEscape"], unfollowed := true, recurses := true, plainKeys := false, apart := false, narrowed := true }
def FnNodeWordsUptoSaid : Prop := fnNodeWordsUptoRow.holds Try.pinned (OpenSpec.upto fnNodeWordsSpec)

end Rows
end Go.Proofs.Ytgeldgikjcihgaa
