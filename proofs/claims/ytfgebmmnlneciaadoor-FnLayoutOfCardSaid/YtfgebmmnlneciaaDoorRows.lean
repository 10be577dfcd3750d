/-
  NARROWER THAN 'FOR EVERY INPUT', by the rows' own cells (each row's printed sentence says how): FnExactLayoutOf: laid · FnExactLayoutBits: laid · FnLayoutOf: laid · FnLayoutGrows: laid · FnLayoutBits: laid · FnLayoutWaste: laid · FnLayoutChoices: laid · FnFieldsAll: laid.
  DERIVED. THE GIVEN ROWS OF THIS SEAT. 8 by the template 'for every input the law returns true; each argument reads behind the call as it read before'; 0 by the template 'total and deterministic' (their statements: YtfgebmmnlneciaaDoorTotals.lean).
  GIVEN WITH THE SEED: the statements are not yours to turn. If you find one false, say at which input.
  Laid BY PROGRAM, IN A SANDBOX (cutbox-rows.mjs): the forced cells as the released guide's own fill.sh prints them over the translation c0495f52815a9335… (all of the seat's roots in one cut). By AI agents, Wed Nov 11 2026. No macro, syntax, notation, axiom, sorry.
-/
import Derived.Test.YtfgebmmnlneciaaDoorChecked
import GoSem.Claim
import GoSem.ClaimJoined
import GoSem.ClaimMapViews
import Derived.JoinedTies
import Derived.KernelRfl
namespace Go.Proofs.YtfgebmmnlneciaaDoor
/- THE CELL 'sum', in the pinned program and in every row, IS THE sha256 OF THE DUMP (.gsa) THAT YtfgebmmnlneciaaDoorProg.lean LOADS. Nothing in Lean hashes anything: it is a label: what it is worth is what the hold of that sum in a sandbox is worth. -/
noncomputable def Tryd.pinned : Pinned := { name := "ytfgebmmnlneciaadoor", sum := "c0495f52815a933527e54ed393d96431f0d9821235476906b9754895f8159c3a", checked := Tryd.checked }
namespace Rows
def none {H : Type} : Left H := { results := [], args := [] }

/- WHAT THE LISTED PACKAGE-LEVEL VARIABLES READ AS WHEN THE CALL BEGINS. Each datum BY PROGRAM (the guide's laid-datum.mjs) off the statement by which the dump's own 'gosem.cut.vars' lays the variable. In a bare row this is a premise. The card (YtfgebmmnlneciaaDoorCards.lean) ties it to the program's text. -/
def laid_math_bits_deBruijn32tab {H : Type} : DataW H := .agg [.lit (.int .u8 0), .lit (.int .u8 1), .lit (.int .u8 28), .lit (.int .u8 2), .lit (.int .u8 29), .lit (.int .u8 14), .lit (.int .u8 24), .lit (.int .u8 3), .lit (.int .u8 30), .lit (.int .u8 22), .lit (.int .u8 20), .lit (.int .u8 15), .lit (.int .u8 25), .lit (.int .u8 17), .lit (.int .u8 4), .lit (.int .u8 8), .lit (.int .u8 31), .lit (.int .u8 27), .lit (.int .u8 13), .lit (.int .u8 23), .lit (.int .u8 21), .lit (.int .u8 19), .lit (.int .u8 16), .lit (.int .u8 7), .lit (.int .u8 26), .lit (.int .u8 12), .lit (.int .u8 18), .lit (.int .u8 6), .lit (.int .u8 11), .lit (.int .u8 5), .lit (.int .u8 10), .lit (.int .u8 9)]
def laid_math_bits_deBruijn64tab {H : Type} : DataW H := .agg [.lit (.int .u8 0), .lit (.int .u8 1), .lit (.int .u8 56), .lit (.int .u8 2), .lit (.int .u8 57), .lit (.int .u8 49), .lit (.int .u8 28), .lit (.int .u8 3), .lit (.int .u8 61), .lit (.int .u8 58), .lit (.int .u8 42), .lit (.int .u8 50), .lit (.int .u8 38), .lit (.int .u8 29), .lit (.int .u8 17), .lit (.int .u8 4), .lit (.int .u8 62), .lit (.int .u8 47), .lit (.int .u8 59), .lit (.int .u8 36), .lit (.int .u8 45), .lit (.int .u8 43), .lit (.int .u8 51), .lit (.int .u8 22), .lit (.int .u8 53), .lit (.int .u8 39), .lit (.int .u8 33), .lit (.int .u8 30), .lit (.int .u8 24), .lit (.int .u8 18), .lit (.int .u8 12), .lit (.int .u8 5), .lit (.int .u8 63), .lit (.int .u8 55), .lit (.int .u8 48), .lit (.int .u8 27), .lit (.int .u8 60), .lit (.int .u8 41), .lit (.int .u8 37), .lit (.int .u8 16), .lit (.int .u8 46), .lit (.int .u8 35), .lit (.int .u8 44), .lit (.int .u8 21), .lit (.int .u8 52), .lit (.int .u8 32), .lit (.int .u8 23), .lit (.int .u8 11), .lit (.int .u8 54), .lit (.int .u8 26), .lit (.int .u8 40), .lit (.int .u8 15), .lit (.int .u8 34), .lit (.int .u8 20), .lit (.int .u8 31), .lit (.int .u8 10), .lit (.int .u8 25), .lit (.int .u8 14), .lit (.int .u8 19), .lit (.int .u8 9), .lit (.int .u8 13), .lit (.int .u8 8), .lit (.int .u8 7), .lit (.int .u8 6)]

/-- 'laws.FnExactLayoutOf': WHATEVER THE INPUT: true; the input reads as it did. -/
def fnExactLayoutOfSpec : ChangeSpec := { name := "fnExactLayoutOf", fn := fun _ => fun
  | [d] => { results := [.lit (.bool true)], args := [d] }
  | _ => none }
def fnExactLayoutOfRow : OpenClaim := { program := "ytfgebmmnlneciaadoor", sum := "c0495f52815a933527e54ed393d96431f0d9821235476906b9754895f8159c3a", func := "loop.example/quoin/laws.FnExactLayoutOf", spec := "fnExactLayoutOf", recurses := true, named := ["math/bits.deBruijn32tab", "math/bits.deBruijn64tab"], apart := false, laid := [("math/bits.deBruijn32tab", laid_math_bits_deBruijn32tab), ("math/bits.deBruijn64tab", laid_math_bits_deBruijn64tab)] }
def FnExactLayoutOfSaid : Prop := fnExactLayoutOfRow.holds Tryd.pinned (OpenSpec.ofChange fnExactLayoutOfSpec)

/-- ITS FALSE NEIGHBOUR: 'it returns false'. Refute it at one input. -/
def fnExactLayoutOfWrong : ChangeSpec := { name := "fnExactLayoutOf", fn := fun _ => fun
  | [d] => { results := [.lit (.bool false)], args := [d] }
  | _ => none }
def FnExactLayoutOfWrongFalsely : Prop := fnExactLayoutOfRow.holds Tryd.pinned (OpenSpec.ofChange fnExactLayoutOfWrong)

/-- 'laws.FnExactLayoutBits': WHATEVER THE INPUT: true; the input reads as it did. -/
def fnExactLayoutBitsSpec : ChangeSpec := { name := "fnExactLayoutBits", fn := fun _ => fun
  | [d1, d2] => { results := [.lit (.bool true)], args := [d1, d2] }
  | _ => none }
def fnExactLayoutBitsRow : OpenClaim := { program := "ytfgebmmnlneciaadoor", sum := "c0495f52815a933527e54ed393d96431f0d9821235476906b9754895f8159c3a", func := "loop.example/quoin/laws.FnExactLayoutBits", spec := "fnExactLayoutBits", recurses := true, named := ["math/bits.deBruijn32tab", "math/bits.deBruijn64tab"], apart := false, laid := [("math/bits.deBruijn32tab", laid_math_bits_deBruijn32tab), ("math/bits.deBruijn64tab", laid_math_bits_deBruijn64tab)] }
def FnExactLayoutBitsSaid : Prop := fnExactLayoutBitsRow.holds Tryd.pinned (OpenSpec.ofChange fnExactLayoutBitsSpec)

/-- ITS FALSE NEIGHBOUR: 'it returns false'. Refute it at one input. -/
def fnExactLayoutBitsWrong : ChangeSpec := { name := "fnExactLayoutBits", fn := fun _ => fun
  | [d1, d2] => { results := [.lit (.bool false)], args := [d1, d2] }
  | _ => none }
def FnExactLayoutBitsWrongFalsely : Prop := fnExactLayoutBitsRow.holds Tryd.pinned (OpenSpec.ofChange fnExactLayoutBitsWrong)

/-- 'laws.FnLayoutOf': WHATEVER THE INPUT: true; the input reads as it did. -/
def fnLayoutOfSpec : ChangeSpec := { name := "fnLayoutOf", fn := fun _ => fun
  | [d] => { results := [.lit (.bool true)], args := [d] }
  | _ => none }
def fnLayoutOfRow : OpenClaim := { program := "ytfgebmmnlneciaadoor", sum := "c0495f52815a933527e54ed393d96431f0d9821235476906b9754895f8159c3a", func := "loop.example/quoin/laws.FnLayoutOf", spec := "fnLayoutOf", recurses := true, named := ["math/bits.deBruijn32tab", "math/bits.deBruijn64tab"], apart := false, laid := [("math/bits.deBruijn32tab", laid_math_bits_deBruijn32tab), ("math/bits.deBruijn64tab", laid_math_bits_deBruijn64tab)] }
def FnLayoutOfSaid : Prop := fnLayoutOfRow.holds Tryd.pinned (OpenSpec.ofChange fnLayoutOfSpec)

/-- ITS FALSE NEIGHBOUR: 'it returns false'. Refute it at one input. -/
def fnLayoutOfWrong : ChangeSpec := { name := "fnLayoutOf", fn := fun _ => fun
  | [d] => { results := [.lit (.bool false)], args := [d] }
  | _ => none }
def FnLayoutOfWrongFalsely : Prop := fnLayoutOfRow.holds Tryd.pinned (OpenSpec.ofChange fnLayoutOfWrong)

/-- 'laws.FnLayoutGrows': WHATEVER THE INPUT: true; the input reads as it did. -/
def fnLayoutGrowsSpec : ChangeSpec := { name := "fnLayoutGrows", fn := fun _ => fun
  | [d1, d2] => { results := [.lit (.bool true)], args := [d1, d2] }
  | _ => none }
def fnLayoutGrowsRow : OpenClaim := { program := "ytfgebmmnlneciaadoor", sum := "c0495f52815a933527e54ed393d96431f0d9821235476906b9754895f8159c3a", func := "loop.example/quoin/laws.FnLayoutGrows", spec := "fnLayoutGrows", recurses := true, named := ["math/bits.deBruijn32tab", "math/bits.deBruijn64tab"], apart := false, laid := [("math/bits.deBruijn32tab", laid_math_bits_deBruijn32tab), ("math/bits.deBruijn64tab", laid_math_bits_deBruijn64tab)] }
def FnLayoutGrowsSaid : Prop := fnLayoutGrowsRow.holds Tryd.pinned (OpenSpec.ofChange fnLayoutGrowsSpec)

/-- ITS FALSE NEIGHBOUR: 'it returns false'. Refute it at one input. -/
def fnLayoutGrowsWrong : ChangeSpec := { name := "fnLayoutGrows", fn := fun _ => fun
  | [d1, d2] => { results := [.lit (.bool false)], args := [d1, d2] }
  | _ => none }
def FnLayoutGrowsWrongFalsely : Prop := fnLayoutGrowsRow.holds Tryd.pinned (OpenSpec.ofChange fnLayoutGrowsWrong)

/-- 'laws.FnLayoutBits': WHATEVER THE INPUT: true; the input reads as it did. -/
def fnLayoutBitsSpec : ChangeSpec := { name := "fnLayoutBits", fn := fun _ => fun
  | [d] => { results := [.lit (.bool true)], args := [d] }
  | _ => none }
def fnLayoutBitsRow : OpenClaim := { program := "ytfgebmmnlneciaadoor", sum := "c0495f52815a933527e54ed393d96431f0d9821235476906b9754895f8159c3a", func := "loop.example/quoin/laws.FnLayoutBits", spec := "fnLayoutBits", recurses := true, named := ["math/bits.deBruijn32tab", "math/bits.deBruijn64tab"], apart := false, laid := [("math/bits.deBruijn32tab", laid_math_bits_deBruijn32tab), ("math/bits.deBruijn64tab", laid_math_bits_deBruijn64tab)] }
def FnLayoutBitsSaid : Prop := fnLayoutBitsRow.holds Tryd.pinned (OpenSpec.ofChange fnLayoutBitsSpec)

/-- ITS FALSE NEIGHBOUR: 'it returns false'. Refute it at one input. -/
def fnLayoutBitsWrong : ChangeSpec := { name := "fnLayoutBits", fn := fun _ => fun
  | [d] => { results := [.lit (.bool false)], args := [d] }
  | _ => none }
def FnLayoutBitsWrongFalsely : Prop := fnLayoutBitsRow.holds Tryd.pinned (OpenSpec.ofChange fnLayoutBitsWrong)

/-- 'laws.FnLayoutWaste': WHATEVER THE INPUT: true; the input reads as it did. -/
def fnLayoutWasteSpec : ChangeSpec := { name := "fnLayoutWaste", fn := fun _ => fun
  | [d] => { results := [.lit (.bool true)], args := [d] }
  | _ => none }
def fnLayoutWasteRow : OpenClaim := { program := "ytfgebmmnlneciaadoor", sum := "c0495f52815a933527e54ed393d96431f0d9821235476906b9754895f8159c3a", func := "loop.example/quoin/laws.FnLayoutWaste", spec := "fnLayoutWaste", recurses := true, named := ["math/bits.deBruijn32tab", "math/bits.deBruijn64tab"], apart := false, laid := [("math/bits.deBruijn32tab", laid_math_bits_deBruijn32tab), ("math/bits.deBruijn64tab", laid_math_bits_deBruijn64tab)] }
def FnLayoutWasteSaid : Prop := fnLayoutWasteRow.holds Tryd.pinned (OpenSpec.ofChange fnLayoutWasteSpec)

/-- ITS FALSE NEIGHBOUR: 'it returns false'. Refute it at one input. -/
def fnLayoutWasteWrong : ChangeSpec := { name := "fnLayoutWaste", fn := fun _ => fun
  | [d] => { results := [.lit (.bool false)], args := [d] }
  | _ => none }
def FnLayoutWasteWrongFalsely : Prop := fnLayoutWasteRow.holds Tryd.pinned (OpenSpec.ofChange fnLayoutWasteWrong)

/-- 'laws.FnLayoutChoices': WHATEVER THE INPUT: true; the input reads as it did. -/
def fnLayoutChoicesSpec : ChangeSpec := { name := "fnLayoutChoices", fn := fun _ => fun
  | [d] => { results := [.lit (.bool true)], args := [d] }
  | _ => none }
def fnLayoutChoicesRow : OpenClaim := { program := "ytfgebmmnlneciaadoor", sum := "c0495f52815a933527e54ed393d96431f0d9821235476906b9754895f8159c3a", func := "loop.example/quoin/laws.FnLayoutChoices", spec := "fnLayoutChoices", recurses := true, named := ["math/bits.deBruijn32tab", "math/bits.deBruijn64tab"], apart := false, laid := [("math/bits.deBruijn32tab", laid_math_bits_deBruijn32tab), ("math/bits.deBruijn64tab", laid_math_bits_deBruijn64tab)] }
def FnLayoutChoicesSaid : Prop := fnLayoutChoicesRow.holds Tryd.pinned (OpenSpec.ofChange fnLayoutChoicesSpec)

/-- ITS FALSE NEIGHBOUR: 'it returns false'. Refute it at one input. -/
def fnLayoutChoicesWrong : ChangeSpec := { name := "fnLayoutChoices", fn := fun _ => fun
  | [d] => { results := [.lit (.bool false)], args := [d] }
  | _ => none }
def FnLayoutChoicesWrongFalsely : Prop := fnLayoutChoicesRow.holds Tryd.pinned (OpenSpec.ofChange fnLayoutChoicesWrong)

/-- 'laws.FnFieldsAll': WHATEVER THE INPUT: true; the input reads as it did. -/
def fnFieldsAllSpec : ChangeSpec := { name := "fnFieldsAll", fn := fun _ => fun
  | [d] => { results := [.lit (.bool true)], args := [d] }
  | _ => none }
def fnFieldsAllRow : OpenClaim := { program := "ytfgebmmnlneciaadoor", sum := "c0495f52815a933527e54ed393d96431f0d9821235476906b9754895f8159c3a", func := "loop.example/quoin/laws.FnFieldsAll", spec := "fnFieldsAll", recurses := true, named := ["math/bits.deBruijn32tab", "math/bits.deBruijn64tab"], apart := false, laid := [("math/bits.deBruijn32tab", laid_math_bits_deBruijn32tab), ("math/bits.deBruijn64tab", laid_math_bits_deBruijn64tab)] }
def FnFieldsAllSaid : Prop := fnFieldsAllRow.holds Tryd.pinned (OpenSpec.ofChange fnFieldsAllSpec)

/-- ITS FALSE NEIGHBOUR: 'it returns false'. Refute it at one input. -/
def fnFieldsAllWrong : ChangeSpec := { name := "fnFieldsAll", fn := fun _ => fun
  | [d] => { results := [.lit (.bool false)], args := [d] }
  | _ => none }
def FnFieldsAllWrongFalsely : Prop := fnFieldsAllRow.holds Tryd.pinned (OpenSpec.ofChange fnFieldsAllWrong)

/- THE SECOND FORM. 'bulk': how many values and letters a reading holds, each counted each time it is reached (what is shared counts as often as it is met; a slice's spare places count too). A statement '..UptoSaid' is the law's where the arguments, and the package variables that the reading takes, are together of bulk at most 1048576: NARROWER than '..Said'. Prove '..Said' where nothing that the law and all that it calls make is longer than what came in: it says more and counts as full. Else prove '..UptoSaid'. A law counts once. -/
mutual
def uptoBulk {H : Type} : DataW H → Nat
  | .lit (.string bytes) => bytes.length + 1
  | .lit _ => 1
  | .nil => 1
  | .ptr d => uptoBulk d + 1
  | .slice elems spare => uptoBulkAll elems + uptoBulkAll spare + 1
  | .agg parts => uptoBulkAll parts + 1
  | .iface _ d => uptoBulk d + 1
  | .map entries => uptoBulkEntries entries + 1
  | .held _ => 1
def uptoBulkAll {H : Type} : List (DataW H) → Nat
  | [] => 0
  | d :: r => uptoBulk d + uptoBulkAll r
def uptoBulkEntries {H : Type} : List (Lit × DataW H) → Nat
  | [] => 0
  | x :: r => uptoBulkEntry x + uptoBulkEntries r
def uptoBulkEntry {H : Type} : Lit × DataW H → Nat
  | (.string bytes, d) => bytes.length + uptoBulk d + 1
  | (_, d) => uptoBulk d + 1
 end
def uptoSmall : (H : Type) → List (DataW H) → Bool := fun _ ds => decide (uptoBulkAll ds ≤ 1048576)
def OpenSpec.upto (s : _root_.Go.ChangeSpec) : _root_.Go.OpenSpec := { _root_.Go.OpenSpec.ofChange s with cond := some uptoSmall }

/-- 'laws.FnExactLayoutOf', WHERE WHAT IT READS IS OF BULK AT MOST 1048576: true; the input reads as it did. -/
def fnExactLayoutOfUptoRow : OpenClaim := { program := "ytfgebmmnlneciaadoor", sum := "c0495f52815a933527e54ed393d96431f0d9821235476906b9754895f8159c3a", func := "loop.example/quoin/laws.FnExactLayoutOf", spec := "fnExactLayoutOf", recurses := true, named := ["math/bits.deBruijn32tab", "math/bits.deBruijn64tab"], apart := false, laid := [("math/bits.deBruijn32tab", laid_math_bits_deBruijn32tab), ("math/bits.deBruijn64tab", laid_math_bits_deBruijn64tab)], narrowed := true }
def FnExactLayoutOfUptoSaid : Prop := fnExactLayoutOfUptoRow.holds Tryd.pinned (OpenSpec.upto fnExactLayoutOfSpec)

/-- 'laws.FnExactLayoutBits', WHERE WHAT IT READS IS OF BULK AT MOST 1048576: true; the input reads as it did. -/
def fnExactLayoutBitsUptoRow : OpenClaim := { program := "ytfgebmmnlneciaadoor", sum := "c0495f52815a933527e54ed393d96431f0d9821235476906b9754895f8159c3a", func := "loop.example/quoin/laws.FnExactLayoutBits", spec := "fnExactLayoutBits", recurses := true, named := ["math/bits.deBruijn32tab", "math/bits.deBruijn64tab"], apart := false, laid := [("math/bits.deBruijn32tab", laid_math_bits_deBruijn32tab), ("math/bits.deBruijn64tab", laid_math_bits_deBruijn64tab)], narrowed := true }
def FnExactLayoutBitsUptoSaid : Prop := fnExactLayoutBitsUptoRow.holds Tryd.pinned (OpenSpec.upto fnExactLayoutBitsSpec)

/-- 'laws.FnLayoutOf', WHERE WHAT IT READS IS OF BULK AT MOST 1048576: true; the input reads as it did. -/
def fnLayoutOfUptoRow : OpenClaim := { program := "ytfgebmmnlneciaadoor", sum := "c0495f52815a933527e54ed393d96431f0d9821235476906b9754895f8159c3a", func := "loop.example/quoin/laws.FnLayoutOf", spec := "fnLayoutOf", recurses := true, named := ["math/bits.deBruijn32tab", "math/bits.deBruijn64tab"], apart := false, laid := [("math/bits.deBruijn32tab", laid_math_bits_deBruijn32tab), ("math/bits.deBruijn64tab", laid_math_bits_deBruijn64tab)], narrowed := true }
def FnLayoutOfUptoSaid : Prop := fnLayoutOfUptoRow.holds Tryd.pinned (OpenSpec.upto fnLayoutOfSpec)

/-- 'laws.FnLayoutGrows', WHERE WHAT IT READS IS OF BULK AT MOST 1048576: true; the input reads as it did. -/
def fnLayoutGrowsUptoRow : OpenClaim := { program := "ytfgebmmnlneciaadoor", sum := "c0495f52815a933527e54ed393d96431f0d9821235476906b9754895f8159c3a", func := "loop.example/quoin/laws.FnLayoutGrows", spec := "fnLayoutGrows", recurses := true, named := ["math/bits.deBruijn32tab", "math/bits.deBruijn64tab"], apart := false, laid := [("math/bits.deBruijn32tab", laid_math_bits_deBruijn32tab), ("math/bits.deBruijn64tab", laid_math_bits_deBruijn64tab)], narrowed := true }
def FnLayoutGrowsUptoSaid : Prop := fnLayoutGrowsUptoRow.holds Tryd.pinned (OpenSpec.upto fnLayoutGrowsSpec)

/-- 'laws.FnLayoutBits', WHERE WHAT IT READS IS OF BULK AT MOST 1048576: true; the input reads as it did. -/
def fnLayoutBitsUptoRow : OpenClaim := { program := "ytfgebmmnlneciaadoor", sum := "c0495f52815a933527e54ed393d96431f0d9821235476906b9754895f8159c3a", func := "loop.example/quoin/laws.FnLayoutBits", spec := "fnLayoutBits", recurses := true, named := ["math/bits.deBruijn32tab", "math/bits.deBruijn64tab"], apart := false, laid := [("math/bits.deBruijn32tab", laid_math_bits_deBruijn32tab), ("math/bits.deBruijn64tab", laid_math_bits_deBruijn64tab)], narrowed := true }
def FnLayoutBitsUptoSaid : Prop := fnLayoutBitsUptoRow.holds Tryd.pinned (OpenSpec.upto fnLayoutBitsSpec)

/-- 'laws.FnLayoutWaste', WHERE WHAT IT READS IS OF BULK AT MOST 1048576: true; the input reads as it did. -/
def fnLayoutWasteUptoRow : OpenClaim := { program := "ytfgebmmnlneciaadoor", sum := "c0495f52815a933527e54ed393d96431f0d9821235476906b9754895f8159c3a", func := "loop.example/quoin/laws.FnLayoutWaste", spec := "fnLayoutWaste", recurses := true, named := ["math/bits.deBruijn32tab", "math/bits.deBruijn64tab"], apart := false, laid := [("math/bits.deBruijn32tab", laid_math_bits_deBruijn32tab), ("math/bits.deBruijn64tab", laid_math_bits_deBruijn64tab)], narrowed := true }
def FnLayoutWasteUptoSaid : Prop := fnLayoutWasteUptoRow.holds Tryd.pinned (OpenSpec.upto fnLayoutWasteSpec)

/-- 'laws.FnLayoutChoices', WHERE WHAT IT READS IS OF BULK AT MOST 1048576: true; the input reads as it did. -/
def fnLayoutChoicesUptoRow : OpenClaim := { program := "ytfgebmmnlneciaadoor", sum := "c0495f52815a933527e54ed393d96431f0d9821235476906b9754895f8159c3a", func := "loop.example/quoin/laws.FnLayoutChoices", spec := "fnLayoutChoices", recurses := true, named := ["math/bits.deBruijn32tab", "math/bits.deBruijn64tab"], apart := false, laid := [("math/bits.deBruijn32tab", laid_math_bits_deBruijn32tab), ("math/bits.deBruijn64tab", laid_math_bits_deBruijn64tab)], narrowed := true }
def FnLayoutChoicesUptoSaid : Prop := fnLayoutChoicesUptoRow.holds Tryd.pinned (OpenSpec.upto fnLayoutChoicesSpec)

/-- 'laws.FnFieldsAll', WHERE WHAT IT READS IS OF BULK AT MOST 1048576: true; the input reads as it did. -/
def fnFieldsAllUptoRow : OpenClaim := { program := "ytfgebmmnlneciaadoor", sum := "c0495f52815a933527e54ed393d96431f0d9821235476906b9754895f8159c3a", func := "loop.example/quoin/laws.FnFieldsAll", spec := "fnFieldsAll", recurses := true, named := ["math/bits.deBruijn32tab", "math/bits.deBruijn64tab"], apart := false, laid := [("math/bits.deBruijn32tab", laid_math_bits_deBruijn32tab), ("math/bits.deBruijn64tab", laid_math_bits_deBruijn64tab)], narrowed := true }
def FnFieldsAllUptoSaid : Prop := fnFieldsAllUptoRow.holds Tryd.pinned (OpenSpec.upto fnFieldsAllSpec)

end Rows
end Go.Proofs.YtfgebmmnlneciaaDoor
