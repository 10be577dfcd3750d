/-
  DERIVED. GIVEN WITH THE SEED: THE CARDS: each row of YtblcibgphccfkaaGreatDoorRows.lean that lists a variable, with what it lists TIED to the program's text (the seventh form; the later family's looks); each row that meets fmt, with fmt's text TOLD by the authors' own Lean function (tested against real Go, not proved from fmt's source: count such statements apart). THE CARD IS WHAT COUNTS. Prove the row's statement (the work); the ties are given (YtblcibgphccfkaaGreatDoorTie.lean); close each card by the builder's one call (the guide's Derived/Test/ToyasCard.lean, 'card_holds'). Laid BY PROGRAM, IN A SANDBOX (cutbox-door.mjs). By AI agents, Wed Nov 11 2026. No macro, syntax, notation, axiom, sorry.
-/
import Derived.Test.YtblcibgphccfkaaGreatDoorRows
import GoSem.ClaimSeven
namespace Go.Proofs.YtblcibgphccfkaaGreatDoor
namespace Rows

/-- THE TIED CARD OF 'laws.FnRecordGet'. -/
def fnRecordGetCard : Claim7 := { stood := { row := fnRecordGetRow, standIns := [], harness := (true, "b76a2cc5d3d48dffe99e0bba4220137e21696574efceca0bd8baf592ccf71271"), looks := false }, kinds := [], alts := [], laidByText := true, laidKinds := [.data, .data], laidTests := true, laidLooks := .later }
def FnRecordGetCardSaid : Prop := Claim7.holds Tryz.pinned (.plain (OpenSpec.ofChange fnRecordGetSpec)) fnRecordGetCard

/-- THE TIED CARD OF 'laws.FnRecordOf'. -/
def fnRecordOfCard : Claim7 := { stood := { row := fnRecordOfRow, standIns := [], harness := (true, "b76a2cc5d3d48dffe99e0bba4220137e21696574efceca0bd8baf592ccf71271"), looks := false }, kinds := [], alts := [], laidByText := true, laidKinds := [.data, .data], laidTests := true, laidLooks := .later }
def FnRecordOfCardSaid : Prop := Claim7.holds Tryz.pinned (.plain (OpenSpec.ofChange fnRecordOfSpec)) fnRecordOfCard

/-- THE TIED CARD OF 'laws.FnRecordOld'. -/
def fnRecordOldCard : Claim7 := { stood := { row := fnRecordOldRow, standIns := [], harness := (true, "b76a2cc5d3d48dffe99e0bba4220137e21696574efceca0bd8baf592ccf71271"), looks := false }, kinds := [], alts := [], laidByText := true, laidKinds := [.data, .data], laidTests := true, laidLooks := .later }
def FnRecordOldCardSaid : Prop := Claim7.holds Tryz.pinned (.plain (OpenSpec.ofChange fnRecordOldSpec)) fnRecordOldCard

/-- THE TIED CARD OF 'laws.FnRecordCanon'. -/
def fnRecordCanonCard : Claim7 := { stood := { row := fnRecordCanonRow, standIns := [], harness := (true, "b76a2cc5d3d48dffe99e0bba4220137e21696574efceca0bd8baf592ccf71271"), looks := false }, kinds := [], alts := [], laidByText := true, laidKinds := [.data, .data], laidTests := true, laidLooks := .later }
def FnRecordCanonCardSaid : Prop := Claim7.holds Tryz.pinned (.plain (OpenSpec.ofChange fnRecordCanonSpec)) fnRecordCanonCard

/-- THE SECOND FORM's CARD OF 'laws.FnRecordGet'. -/
def fnRecordGetUptoCard : Claim7 := { stood := { row := fnRecordGetUptoRow, standIns := [], harness := (true, "b76a2cc5d3d48dffe99e0bba4220137e21696574efceca0bd8baf592ccf71271"), looks := false }, kinds := [], alts := [], laidByText := true, laidKinds := [.data, .data], laidTests := true, laidLooks := .later }
def FnRecordGetUptoCardSaid : Prop := Claim7.holds Tryz.pinned (.plain (OpenSpec.upto fnRecordGetSpec)) fnRecordGetUptoCard

/-- THE SECOND FORM's CARD OF 'laws.FnRecordOf'. -/
def fnRecordOfUptoCard : Claim7 := { stood := { row := fnRecordOfUptoRow, standIns := [], harness := (true, "b76a2cc5d3d48dffe99e0bba4220137e21696574efceca0bd8baf592ccf71271"), looks := false }, kinds := [], alts := [], laidByText := true, laidKinds := [.data, .data], laidTests := true, laidLooks := .later }
def FnRecordOfUptoCardSaid : Prop := Claim7.holds Tryz.pinned (.plain (OpenSpec.upto fnRecordOfSpec)) fnRecordOfUptoCard

/-- THE SECOND FORM's CARD OF 'laws.FnRecordOld'. -/
def fnRecordOldUptoCard : Claim7 := { stood := { row := fnRecordOldUptoRow, standIns := [], harness := (true, "b76a2cc5d3d48dffe99e0bba4220137e21696574efceca0bd8baf592ccf71271"), looks := false }, kinds := [], alts := [], laidByText := true, laidKinds := [.data, .data], laidTests := true, laidLooks := .later }
def FnRecordOldUptoCardSaid : Prop := Claim7.holds Tryz.pinned (.plain (OpenSpec.upto fnRecordOldSpec)) fnRecordOldUptoCard

/-- THE SECOND FORM's CARD OF 'laws.FnRecordCanon'. -/
def fnRecordCanonUptoCard : Claim7 := { stood := { row := fnRecordCanonUptoRow, standIns := [], harness := (true, "b76a2cc5d3d48dffe99e0bba4220137e21696574efceca0bd8baf592ccf71271"), looks := false }, kinds := [], alts := [], laidByText := true, laidKinds := [.data, .data], laidTests := true, laidLooks := .later }
def FnRecordCanonUptoCardSaid : Prop := Claim7.holds Tryz.pinned (.plain (OpenSpec.upto fnRecordCanonSpec)) fnRecordCanonUptoCard
end Rows
end Go.Proofs.YtblcibgphccfkaaGreatDoor
