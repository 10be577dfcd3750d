/-
  DERIVED. GIVEN WITH THE SEED: THE CARDS: each row of YtabipkpgmlmkcabDoorRows.lean that lists a variable, with what it lists TIED to the program's text (the seventh form; the later family's looks); each row that meets fmt, with fmt's text TOLD by the authors' own Lean function (tested against real Go, not proved from fmt's source: count such statements apart). THE CARD IS WHAT COUNTS. Prove the row's statement (the work); the ties are given (YtabipkpgmlmkcabDoorTie.lean); close each card by the builder's one call (the guide's Derived/Test/ToyasCard.lean, 'card_holds'). Laid BY PROGRAM, IN A SANDBOX (cutbox-door.mjs). By AI agents, Wed Nov 11 2026. No macro, syntax, notation, axiom, sorry.
-/
import Derived.Test.YtabipkpgmlmkcabDoorRows
import GoSem.ClaimSeven
namespace Go.Proofs.YtabipkpgmlmkcabDoor
namespace Rows

/-- THE TIED CARD OF 'laws.FnExactRecordChoice'. -/
def fnExactRecordChoiceCard : Claim7 := { stood := { row := fnExactRecordChoiceRow, standIns := [], harness := (true, "7c653841e99c0e32ae420c139d3de286e7a18ccd34ed436a25e325d9b34bf6d5"), looks := false }, kinds := [], alts := [], laidByText := true, laidKinds := [.data, .data], laidTests := true, laidLooks := .later }
def FnExactRecordChoiceCardSaid : Prop := Claim7.holds Tryd.pinned (.plain (OpenSpec.ofChange fnExactRecordChoiceSpec)) fnExactRecordChoiceCard

/-- THE SECOND FORM's CARD OF 'laws.FnExactRecordChoice'. -/
def fnExactRecordChoiceUptoCard : Claim7 := { stood := { row := fnExactRecordChoiceUptoRow, standIns := [], harness := (true, "7c653841e99c0e32ae420c139d3de286e7a18ccd34ed436a25e325d9b34bf6d5"), looks := false }, kinds := [], alts := [], laidByText := true, laidKinds := [.data, .data], laidTests := true, laidLooks := .later }
def FnExactRecordChoiceUptoCardSaid : Prop := Claim7.holds Tryd.pinned (.plain (OpenSpec.upto fnExactRecordChoiceSpec)) fnExactRecordChoiceUptoCard
end Rows
end Go.Proofs.YtabipkpgmlmkcabDoor
