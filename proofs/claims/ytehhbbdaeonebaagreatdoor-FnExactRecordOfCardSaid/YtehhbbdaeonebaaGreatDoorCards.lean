/-
  DERIVED. GIVEN WITH THE SEED: THE CARDS: each row of YtehhbbdaeonebaaGreatDoorRows.lean that lists a variable, with what it lists TIED to the program's text (the seventh form; the later family's looks); each row that meets fmt, with fmt's text TOLD by the authors' own Lean function (tested against real Go, not proved from fmt's source: count such statements apart). THE CARD IS WHAT COUNTS. Prove the row's statement (the work); the ties are given (YtehhbbdaeonebaaGreatDoorTie.lean); close each card by the builder's one call (the guide's Derived/Test/ToyasCard.lean, 'card_holds'). Laid BY PROGRAM, IN A SANDBOX (cutbox-door.mjs). By AI agents, Wed Nov 11 2026. No macro, syntax, notation, axiom, sorry.
-/
import Derived.Test.YtehhbbdaeonebaaGreatDoorRows
import GoSem.ClaimSeven
namespace Go.Proofs.YtehhbbdaeonebaaGreatDoor
namespace Rows

/-- THE TIED CARD OF 'laws.FnExactRecordGet'. -/
def fnExactRecordGetCard : Claim7 := { stood := { row := fnExactRecordGetRow, standIns := [], harness := (true, "33fad4c90bf27a088bec78d65f81c168e6a3a57c58753d470909a64e8cb63b16"), looks := false }, kinds := [], alts := [], laidByText := true, laidKinds := [.data, .data], laidTests := true, laidLooks := .later }
def FnExactRecordGetCardSaid : Prop := Claim7.holds Tryz.pinned (.plain (OpenSpec.ofChange fnExactRecordGetSpec)) fnExactRecordGetCard

/-- THE TIED CARD OF 'laws.FnExactRecordOf'. -/
def fnExactRecordOfCard : Claim7 := { stood := { row := fnExactRecordOfRow, standIns := [], harness := (true, "33fad4c90bf27a088bec78d65f81c168e6a3a57c58753d470909a64e8cb63b16"), looks := false }, kinds := [], alts := [], laidByText := true, laidKinds := [.data, .data], laidTests := true, laidLooks := .later }
def FnExactRecordOfCardSaid : Prop := Claim7.holds Tryz.pinned (.plain (OpenSpec.ofChange fnExactRecordOfSpec)) fnExactRecordOfCard

/-- THE SECOND FORM's CARD OF 'laws.FnExactRecordGet'. -/
def fnExactRecordGetUptoCard : Claim7 := { stood := { row := fnExactRecordGetUptoRow, standIns := [], harness := (true, "33fad4c90bf27a088bec78d65f81c168e6a3a57c58753d470909a64e8cb63b16"), looks := false }, kinds := [], alts := [], laidByText := true, laidKinds := [.data, .data], laidTests := true, laidLooks := .later }
def FnExactRecordGetUptoCardSaid : Prop := Claim7.holds Tryz.pinned (.plain (OpenSpec.upto fnExactRecordGetSpec)) fnExactRecordGetUptoCard

/-- THE SECOND FORM's CARD OF 'laws.FnExactRecordOf'. -/
def fnExactRecordOfUptoCard : Claim7 := { stood := { row := fnExactRecordOfUptoRow, standIns := [], harness := (true, "33fad4c90bf27a088bec78d65f81c168e6a3a57c58753d470909a64e8cb63b16"), looks := false }, kinds := [], alts := [], laidByText := true, laidKinds := [.data, .data], laidTests := true, laidLooks := .later }
def FnExactRecordOfUptoCardSaid : Prop := Claim7.holds Tryz.pinned (.plain (OpenSpec.upto fnExactRecordOfSpec)) fnExactRecordOfUptoCard
end Rows
end Go.Proofs.YtehhbbdaeonebaaGreatDoor
