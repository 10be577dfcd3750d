/-
  DERIVED. GIVEN WITH THE SEED: THE CARDS: each row of YtfiiopchfmcjdabDoorRows.lean that lists a variable, with what it lists TIED to the program's text (the seventh form; the later family's looks); each row that meets fmt, with fmt's text TOLD by the authors' own Lean function (tested against real Go, not proved from fmt's source: count such statements apart). THE CARD IS WHAT COUNTS. Prove the row's statement (the work); the ties are given (YtfiiopchfmcjdabDoorTie.lean); close each card by the builder's one call (the guide's Derived/Test/ToyasCard.lean, 'card_holds'). Laid BY PROGRAM, IN A SANDBOX (cutbox-door.mjs). By AI agents, Wed Nov 11 2026. No macro, syntax, notation, axiom, sorry.
-/
import Derived.Test.YtfiiopchfmcjdabDoorRows
import GoSem.ClaimSeven
namespace Go.Proofs.YtfiiopchfmcjdabDoor
namespace Rows

/-- THE TIED CARD OF 'laws.FnPipe'. -/
def fnPipeCard : Claim7 := { stood := { row := fnPipeRow, standIns := [], harness := (true, "cf5d8d1936077e4292feb3c278c34102b39aba5f33c1f1d5eb323e8be0a85c78"), looks := false }, kinds := [], alts := [], laidByText := true, laidKinds := [.data, .pinned], laidTests := true, laidLooks := .later }
def FnPipeCardSaid : Prop := Claim7.holds Tryd.pinned (.plain (OpenSpec.ofChange fnPipeSpec)) fnPipeCard

/-- THE TIED CARD OF 'laws.FnPipeBytes'. -/
def fnPipeBytesCard : Claim7 := { stood := { row := fnPipeBytesRow, standIns := [], harness := (true, "cf5d8d1936077e4292feb3c278c34102b39aba5f33c1f1d5eb323e8be0a85c78"), looks := false }, kinds := [], alts := [], laidByText := true, laidKinds := [.data, .pinned], laidTests := true, laidLooks := .later }
def FnPipeBytesCardSaid : Prop := Claim7.holds Tryd.pinned (.plain (OpenSpec.ofChange fnPipeBytesSpec)) fnPipeBytesCard

/-- THE TIED CARD OF 'laws.FnExactAccessText'. -/
def fnExactAccessTextCard : Claim7 := { stood := { row := fnExactAccessTextRow, standIns := [], harness := (true, "cf5d8d1936077e4292feb3c278c34102b39aba5f33c1f1d5eb323e8be0a85c78"), looks := false }, kinds := [], alts := [], laidByText := true, laidKinds := [.data, .data, .data], laidTests := true, laidLooks := .later }
def FnExactAccessTextCardSaid : Prop := Claim7.holds Tryd.pinned (.plain (OpenSpec.ofChange fnExactAccessTextSpec)) fnExactAccessTextCard

/-- THE TIED CARD OF 'laws.FnExactRecordChoice'. -/
def fnExactRecordChoiceCard : Claim7 := { stood := { row := fnExactRecordChoiceRow, standIns := [], harness := (true, "cf5d8d1936077e4292feb3c278c34102b39aba5f33c1f1d5eb323e8be0a85c78"), looks := false }, kinds := [], alts := [], laidByText := true, laidKinds := [.data, .data], laidTests := true, laidLooks := .later }
def FnExactRecordChoiceCardSaid : Prop := Claim7.holds Tryd.pinned (.plain (OpenSpec.ofChange fnExactRecordChoiceSpec)) fnExactRecordChoiceCard

/-- THE SECOND FORM's CARD OF 'laws.FnPipe'. -/
def fnPipeUptoCard : Claim7 := { stood := { row := fnPipeUptoRow, standIns := [], harness := (true, "cf5d8d1936077e4292feb3c278c34102b39aba5f33c1f1d5eb323e8be0a85c78"), looks := false }, kinds := [], alts := [], laidByText := true, laidKinds := [.data, .pinned], laidTests := true, laidLooks := .later }
def FnPipeUptoCardSaid : Prop := Claim7.holds Tryd.pinned (.plain (OpenSpec.upto fnPipeSpec)) fnPipeUptoCard

/-- THE SECOND FORM's CARD OF 'laws.FnPipeBytes'. -/
def fnPipeBytesUptoCard : Claim7 := { stood := { row := fnPipeBytesUptoRow, standIns := [], harness := (true, "cf5d8d1936077e4292feb3c278c34102b39aba5f33c1f1d5eb323e8be0a85c78"), looks := false }, kinds := [], alts := [], laidByText := true, laidKinds := [.data, .pinned], laidTests := true, laidLooks := .later }
def FnPipeBytesUptoCardSaid : Prop := Claim7.holds Tryd.pinned (.plain (OpenSpec.upto fnPipeBytesSpec)) fnPipeBytesUptoCard

/-- THE SECOND FORM's CARD OF 'laws.FnExactAccessText'. -/
def fnExactAccessTextUptoCard : Claim7 := { stood := { row := fnExactAccessTextUptoRow, standIns := [], harness := (true, "cf5d8d1936077e4292feb3c278c34102b39aba5f33c1f1d5eb323e8be0a85c78"), looks := false }, kinds := [], alts := [], laidByText := true, laidKinds := [.data, .data, .data], laidTests := true, laidLooks := .later }
def FnExactAccessTextUptoCardSaid : Prop := Claim7.holds Tryd.pinned (.plain (OpenSpec.upto fnExactAccessTextSpec)) fnExactAccessTextUptoCard

/-- THE SECOND FORM's CARD OF 'laws.FnExactRecordChoice'. -/
def fnExactRecordChoiceUptoCard : Claim7 := { stood := { row := fnExactRecordChoiceUptoRow, standIns := [], harness := (true, "cf5d8d1936077e4292feb3c278c34102b39aba5f33c1f1d5eb323e8be0a85c78"), looks := false }, kinds := [], alts := [], laidByText := true, laidKinds := [.data, .data], laidTests := true, laidLooks := .later }
def FnExactRecordChoiceUptoCardSaid : Prop := Claim7.holds Tryd.pinned (.plain (OpenSpec.upto fnExactRecordChoiceSpec)) fnExactRecordChoiceUptoCard
end Rows
end Go.Proofs.YtfiiopchfmcjdabDoor
