/-
  DERIVED. GIVEN WITH THE SEED: THE CARDS: each row of YtlbfffokkhccaaaGreatDoorRows.lean that lists a variable, with what it lists TIED to the program's text (the seventh form; the later family's looks); each row that meets fmt, with fmt's text TOLD by the authors' own Lean function (tested against real Go, not proved from fmt's source: count such statements apart). THE CARD IS WHAT COUNTS. Prove the row's statement (the work); the ties are given (YtlbfffokkhccaaaGreatDoorTie.lean); close each card by the builder's one call (the guide's Derived/Test/ToyasCard.lean, 'card_holds'). Laid BY PROGRAM, IN A SANDBOX (cutbox-door.mjs). By AI agents, Wed Nov 11 2026. No macro, syntax, notation, axiom, sorry.
-/
import Derived.Test.YtlbfffokkhccaaaGreatDoorRows
import GoSem.ClaimSeven
namespace Go.Proofs.YtlbfffokkhccaaaGreatDoor
namespace Rows

/-- THE TIED CARD OF 'laws.FnBuild'. -/
def fnBuildCard : Claim7 := { stood := { row := fnBuildRow, standIns := [], harness := (true, "9dc70f9168ecd9e78bb27f8096cba545cd31b969d1636909e77a25ba615e1f04"), looks := true }, kinds := [], alts := [], laidByText := true, laidKinds := [.handle], laidTests := true, laidLooks := .later }
def FnBuildCardSaid : Prop := Claim7.holds Tryz.pinned (.plain (OpenSpec.ofChange fnBuildSpec)) fnBuildCard

/-- THE TIED CARD OF 'laws.FnBuildOne'. -/
def fnBuildOneCard : Claim7 := { stood := { row := fnBuildOneRow, standIns := [], harness := (true, "9dc70f9168ecd9e78bb27f8096cba545cd31b969d1636909e77a25ba615e1f04"), looks := true }, kinds := [], alts := [], laidByText := true, laidKinds := [.handle], laidTests := true, laidLooks := .later }
def FnBuildOneCardSaid : Prop := Claim7.holds Tryz.pinned (.plain (OpenSpec.ofChange fnBuildOneSpec)) fnBuildOneCard

/-- THE TIED CARD OF 'laws.FnSend'. -/
def fnSendCard : Claim7 := { stood := { row := fnSendRow, standIns := [], harness := (true, "9dc70f9168ecd9e78bb27f8096cba545cd31b969d1636909e77a25ba615e1f04"), looks := true }, kinds := [], alts := [], laidByText := true, laidKinds := [.data, .handle, .pinned], laidTests := true, laidLooks := .later }
def FnSendCardSaid : Prop := Claim7.holds Tryz.pinned (.plain (OpenSpec.ofChange fnSendSpec)) fnSendCard

/-- THE TIED CARD OF 'laws.FnReadFar'. -/
def fnReadFarCard : Claim7 := { stood := { row := fnReadFarRow, standIns := [], harness := (true, "9dc70f9168ecd9e78bb27f8096cba545cd31b969d1636909e77a25ba615e1f04"), looks := true }, kinds := [], alts := [], laidByText := true, laidKinds := [.handle], laidTests := true, laidLooks := .later }
def FnReadFarCardSaid : Prop := Claim7.holds Tryz.pinned (.plain (OpenSpec.ofChange fnReadFarSpec)) fnReadFarCard

/-- THE TIED CARD OF 'laws.FnReadTwo'. -/
def fnReadTwoCard : Claim7 := { stood := { row := fnReadTwoRow, standIns := [], harness := (true, "9dc70f9168ecd9e78bb27f8096cba545cd31b969d1636909e77a25ba615e1f04"), looks := true }, kinds := [], alts := [], laidByText := true, laidKinds := [.handle], laidTests := true, laidLooks := .later }
def FnReadTwoCardSaid : Prop := Claim7.holds Tryz.pinned (.plain (OpenSpec.ofChange fnReadTwoSpec)) fnReadTwoCard

/-- THE TIED CARD OF 'laws.FnCanonSent'. -/
def fnCanonSentCard : Claim7 := { stood := { row := fnCanonSentRow, standIns := [], harness := (true, "9dc70f9168ecd9e78bb27f8096cba545cd31b969d1636909e77a25ba615e1f04"), looks := true }, kinds := [], alts := [], laidByText := true, laidKinds := [.data, .handle, .pinned], laidTests := true, laidLooks := .later }
def FnCanonSentCardSaid : Prop := Claim7.holds Tryz.pinned (.plain (OpenSpec.ofChange fnCanonSentSpec)) fnCanonSentCard

/-- THE SECOND FORM's CARD OF 'laws.FnBuild'. -/
def fnBuildUptoCard : Claim7 := { stood := { row := fnBuildUptoRow, standIns := [], harness := (true, "9dc70f9168ecd9e78bb27f8096cba545cd31b969d1636909e77a25ba615e1f04"), looks := true }, kinds := [], alts := [], laidByText := true, laidKinds := [.handle], laidTests := true, laidLooks := .later }
def FnBuildUptoCardSaid : Prop := Claim7.holds Tryz.pinned (.plain (OpenSpec.upto fnBuildSpec)) fnBuildUptoCard

/-- THE SECOND FORM's CARD OF 'laws.FnBuildOne'. -/
def fnBuildOneUptoCard : Claim7 := { stood := { row := fnBuildOneUptoRow, standIns := [], harness := (true, "9dc70f9168ecd9e78bb27f8096cba545cd31b969d1636909e77a25ba615e1f04"), looks := true }, kinds := [], alts := [], laidByText := true, laidKinds := [.handle], laidTests := true, laidLooks := .later }
def FnBuildOneUptoCardSaid : Prop := Claim7.holds Tryz.pinned (.plain (OpenSpec.upto fnBuildOneSpec)) fnBuildOneUptoCard

/-- THE SECOND FORM's CARD OF 'laws.FnSend'. -/
def fnSendUptoCard : Claim7 := { stood := { row := fnSendUptoRow, standIns := [], harness := (true, "9dc70f9168ecd9e78bb27f8096cba545cd31b969d1636909e77a25ba615e1f04"), looks := true }, kinds := [], alts := [], laidByText := true, laidKinds := [.data, .handle, .pinned], laidTests := true, laidLooks := .later }
def FnSendUptoCardSaid : Prop := Claim7.holds Tryz.pinned (.plain (OpenSpec.upto fnSendSpec)) fnSendUptoCard

/-- THE SECOND FORM's CARD OF 'laws.FnReadFar'. -/
def fnReadFarUptoCard : Claim7 := { stood := { row := fnReadFarUptoRow, standIns := [], harness := (true, "9dc70f9168ecd9e78bb27f8096cba545cd31b969d1636909e77a25ba615e1f04"), looks := true }, kinds := [], alts := [], laidByText := true, laidKinds := [.handle], laidTests := true, laidLooks := .later }
def FnReadFarUptoCardSaid : Prop := Claim7.holds Tryz.pinned (.plain (OpenSpec.upto fnReadFarSpec)) fnReadFarUptoCard

/-- THE SECOND FORM's CARD OF 'laws.FnReadTwo'. -/
def fnReadTwoUptoCard : Claim7 := { stood := { row := fnReadTwoUptoRow, standIns := [], harness := (true, "9dc70f9168ecd9e78bb27f8096cba545cd31b969d1636909e77a25ba615e1f04"), looks := true }, kinds := [], alts := [], laidByText := true, laidKinds := [.handle], laidTests := true, laidLooks := .later }
def FnReadTwoUptoCardSaid : Prop := Claim7.holds Tryz.pinned (.plain (OpenSpec.upto fnReadTwoSpec)) fnReadTwoUptoCard

/-- THE SECOND FORM's CARD OF 'laws.FnCanonSent'. -/
def fnCanonSentUptoCard : Claim7 := { stood := { row := fnCanonSentUptoRow, standIns := [], harness := (true, "9dc70f9168ecd9e78bb27f8096cba545cd31b969d1636909e77a25ba615e1f04"), looks := true }, kinds := [], alts := [], laidByText := true, laidKinds := [.data, .handle, .pinned], laidTests := true, laidLooks := .later }
def FnCanonSentUptoCardSaid : Prop := Claim7.holds Tryz.pinned (.plain (OpenSpec.upto fnCanonSentSpec)) fnCanonSentUptoCard
end Rows
end Go.Proofs.YtlbfffokkhccaaaGreatDoor
