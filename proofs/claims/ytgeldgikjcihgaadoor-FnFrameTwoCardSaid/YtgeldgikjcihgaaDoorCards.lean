/-
  DERIVED. GIVEN WITH THE SEED: THE CARDS: each row of YtgeldgikjcihgaaDoorRows.lean that lists a variable, with what it lists TIED to the program's text (the seventh form; the later family's looks); each row that meets fmt, with fmt's text TOLD by the authors' own Lean function (tested against real Go, not proved from fmt's source: count such statements apart). THE CARD IS WHAT COUNTS. Prove the row's statement (the work); the ties are given (YtgeldgikjcihgaaDoorTie.lean); close each card by the builder's one call (the guide's Derived/Test/ToyasCard.lean, 'card_holds'). Laid BY PROGRAM, IN A SANDBOX (cutbox-door.mjs). By AI agents, Wed Nov 11 2026. No macro, syntax, notation, axiom, sorry.
-/
import Derived.Test.YtgeldgikjcihgaaDoorRows
import GoSem.ClaimSeven
namespace Go.Proofs.YtgeldgikjcihgaaDoor
namespace Rows

/-- THE TIED CARD OF 'laws.FnFramePart'. -/
def fnFramePartCard : Claim7 := { stood := { row := fnFramePartRow, standIns := [], harness := (true, "e3b0d33e005d2b2df3f4253a5a8454326a29c2bca2fb9b6df90204909d386ea9"), looks := false }, kinds := [], alts := [], laidByText := true, laidKinds := [.data, .pinned], laidTests := true, laidLooks := .later }
def FnFramePartCardSaid : Prop := Claim7.holds Tryd.pinned (.plain (OpenSpec.ofChange fnFramePartSpec)) fnFramePartCard

/-- THE TIED CARD OF 'laws.FnFrameTwo'. -/
def fnFrameTwoCard : Claim7 := { stood := { row := fnFrameTwoRow, standIns := [], harness := (true, "e3b0d33e005d2b2df3f4253a5a8454326a29c2bca2fb9b6df90204909d386ea9"), looks := false }, kinds := [], alts := [], laidByText := true, laidKinds := [.data, .pinned], laidTests := true, laidLooks := .later }
def FnFrameTwoCardSaid : Prop := Claim7.holds Tryd.pinned (.plain (OpenSpec.ofChange fnFrameTwoSpec)) fnFrameTwoCard

/-- THE TIED CARD OF 'laws.FnExactFrameGet'. -/
def fnExactFrameGetCard : Claim7 := { stood := { row := fnExactFrameGetRow, standIns := [], harness := (true, "e3b0d33e005d2b2df3f4253a5a8454326a29c2bca2fb9b6df90204909d386ea9"), looks := false }, kinds := [], alts := [], laidByText := true, laidKinds := [.data, .pinned], laidTests := true, laidLooks := .later }
def FnExactFrameGetCardSaid : Prop := Claim7.holds Tryd.pinned (.plain (OpenSpec.ofChange fnExactFrameGetSpec)) fnExactFrameGetCard

/-- THE SECOND FORM's CARD OF 'laws.FnFramePart'. -/
def fnFramePartUptoCard : Claim7 := { stood := { row := fnFramePartUptoRow, standIns := [], harness := (true, "e3b0d33e005d2b2df3f4253a5a8454326a29c2bca2fb9b6df90204909d386ea9"), looks := false }, kinds := [], alts := [], laidByText := true, laidKinds := [.data, .pinned], laidTests := true, laidLooks := .later }
def FnFramePartUptoCardSaid : Prop := Claim7.holds Tryd.pinned (.plain (OpenSpec.upto fnFramePartSpec)) fnFramePartUptoCard

/-- THE SECOND FORM's CARD OF 'laws.FnFrameTwo'. -/
def fnFrameTwoUptoCard : Claim7 := { stood := { row := fnFrameTwoUptoRow, standIns := [], harness := (true, "e3b0d33e005d2b2df3f4253a5a8454326a29c2bca2fb9b6df90204909d386ea9"), looks := false }, kinds := [], alts := [], laidByText := true, laidKinds := [.data, .pinned], laidTests := true, laidLooks := .later }
def FnFrameTwoUptoCardSaid : Prop := Claim7.holds Tryd.pinned (.plain (OpenSpec.upto fnFrameTwoSpec)) fnFrameTwoUptoCard

/-- THE SECOND FORM's CARD OF 'laws.FnExactFrameGet'. -/
def fnExactFrameGetUptoCard : Claim7 := { stood := { row := fnExactFrameGetUptoRow, standIns := [], harness := (true, "e3b0d33e005d2b2df3f4253a5a8454326a29c2bca2fb9b6df90204909d386ea9"), looks := false }, kinds := [], alts := [], laidByText := true, laidKinds := [.data, .pinned], laidTests := true, laidLooks := .later }
def FnExactFrameGetUptoCardSaid : Prop := Claim7.holds Tryd.pinned (.plain (OpenSpec.upto fnExactFrameGetSpec)) fnExactFrameGetUptoCard
end Rows
end Go.Proofs.YtgeldgikjcihgaaDoor
