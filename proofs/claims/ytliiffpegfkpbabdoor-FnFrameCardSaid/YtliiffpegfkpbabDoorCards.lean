/-
  DERIVED. GIVEN WITH THE SEED: THE CARDS: each row of YtliiffpegfkpbabDoorRows.lean that lists a variable, with what it lists TIED to the program's text (the seventh form; the later family's looks); each row that meets fmt, with fmt's text TOLD by the authors' own Lean function (tested against real Go, not proved from fmt's source: count such statements apart). THE CARD IS WHAT COUNTS. Prove the row's statement (the work); the ties are given (YtliiffpegfkpbabDoorTie.lean); close each card by the builder's one call (the guide's Derived/Test/ToyasCard.lean, 'card_holds'). Laid BY PROGRAM, IN A SANDBOX (cutbox-door.mjs). By AI agents, Wed Nov 11 2026. No macro, syntax, notation, axiom, sorry.
-/
import Derived.Test.YtliiffpegfkpbabDoorRows
import GoSem.ClaimSeven
namespace Go.Proofs.YtliiffpegfkpbabDoor
namespace Rows

/-- THE TIED CARD OF 'laws.FnFrame'. -/
def fnFrameCard : Claim7 := { stood := { row := fnFrameRow, standIns := [], harness := (true, "2a6948df74785b71fcfae5aad7001e93a234cd9105b2e70e39ef44292f719127"), looks := false }, kinds := [], alts := [], laidByText := true, laidKinds := [.data, .pinned], laidTests := true, laidLooks := .later }
def FnFrameCardSaid : Prop := Claim7.holds Tryd.pinned (.plain (OpenSpec.ofChange fnFrameSpec)) fnFrameCard

/-- THE TIED CARD OF 'laws.FnPipeAll'. -/
def fnPipeAllCard : Claim7 := { stood := { row := fnPipeAllRow, standIns := [], harness := (true, "2a6948df74785b71fcfae5aad7001e93a234cd9105b2e70e39ef44292f719127"), looks := false }, kinds := [], alts := [], laidByText := true, laidKinds := [.data, .pinned], laidTests := true, laidLooks := .later }
def FnPipeAllCardSaid : Prop := Claim7.holds Tryd.pinned (.plain (OpenSpec.ofChange fnPipeAllSpec)) fnPipeAllCard

/-- THE TIED CARD OF 'laws.FnExactPipeOk'. -/
def fnExactPipeOkCard : Claim7 := { stood := { row := fnExactPipeOkRow, standIns := [], harness := (true, "2a6948df74785b71fcfae5aad7001e93a234cd9105b2e70e39ef44292f719127"), looks := false }, kinds := [], alts := [], laidByText := true, laidKinds := [.data, .pinned], laidTests := true, laidLooks := .later }
def FnExactPipeOkCardSaid : Prop := Claim7.holds Tryd.pinned (.plain (OpenSpec.ofChange fnExactPipeOkSpec)) fnExactPipeOkCard

/-- THE TIED CARD OF 'laws.FnExactPipeFeed'. -/
def fnExactPipeFeedCard : Claim7 := { stood := { row := fnExactPipeFeedRow, standIns := [], harness := (true, "2a6948df74785b71fcfae5aad7001e93a234cd9105b2e70e39ef44292f719127"), looks := false }, kinds := [], alts := [], laidByText := true, laidKinds := [.data, .pinned], laidTests := true, laidLooks := .later }
def FnExactPipeFeedCardSaid : Prop := Claim7.holds Tryd.pinned (.plain (OpenSpec.ofChange fnExactPipeFeedSpec)) fnExactPipeFeedCard

/-- THE SECOND FORM's CARD OF 'laws.FnFrame'. -/
def fnFrameUptoCard : Claim7 := { stood := { row := fnFrameUptoRow, standIns := [], harness := (true, "2a6948df74785b71fcfae5aad7001e93a234cd9105b2e70e39ef44292f719127"), looks := false }, kinds := [], alts := [], laidByText := true, laidKinds := [.data, .pinned], laidTests := true, laidLooks := .later }
def FnFrameUptoCardSaid : Prop := Claim7.holds Tryd.pinned (.plain (OpenSpec.upto fnFrameSpec)) fnFrameUptoCard

/-- THE SECOND FORM's CARD OF 'laws.FnPipeAll'. -/
def fnPipeAllUptoCard : Claim7 := { stood := { row := fnPipeAllUptoRow, standIns := [], harness := (true, "2a6948df74785b71fcfae5aad7001e93a234cd9105b2e70e39ef44292f719127"), looks := false }, kinds := [], alts := [], laidByText := true, laidKinds := [.data, .pinned], laidTests := true, laidLooks := .later }
def FnPipeAllUptoCardSaid : Prop := Claim7.holds Tryd.pinned (.plain (OpenSpec.upto fnPipeAllSpec)) fnPipeAllUptoCard

/-- THE SECOND FORM's CARD OF 'laws.FnExactPipeOk'. -/
def fnExactPipeOkUptoCard : Claim7 := { stood := { row := fnExactPipeOkUptoRow, standIns := [], harness := (true, "2a6948df74785b71fcfae5aad7001e93a234cd9105b2e70e39ef44292f719127"), looks := false }, kinds := [], alts := [], laidByText := true, laidKinds := [.data, .pinned], laidTests := true, laidLooks := .later }
def FnExactPipeOkUptoCardSaid : Prop := Claim7.holds Tryd.pinned (.plain (OpenSpec.upto fnExactPipeOkSpec)) fnExactPipeOkUptoCard

/-- THE SECOND FORM's CARD OF 'laws.FnExactPipeFeed'. -/
def fnExactPipeFeedUptoCard : Claim7 := { stood := { row := fnExactPipeFeedUptoRow, standIns := [], harness := (true, "2a6948df74785b71fcfae5aad7001e93a234cd9105b2e70e39ef44292f719127"), looks := false }, kinds := [], alts := [], laidByText := true, laidKinds := [.data, .pinned], laidTests := true, laidLooks := .later }
def FnExactPipeFeedUptoCardSaid : Prop := Claim7.holds Tryd.pinned (.plain (OpenSpec.upto fnExactPipeFeedSpec)) fnExactPipeFeedUptoCard
end Rows
end Go.Proofs.YtliiffpegfkpbabDoor
