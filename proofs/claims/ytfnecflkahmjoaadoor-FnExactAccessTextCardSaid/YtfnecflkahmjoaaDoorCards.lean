/-
  DERIVED. GIVEN WITH THE SEED: THE CARDS: each row of YtfnecflkahmjoaaDoorRows.lean that lists a variable, with what it lists TIED to the program's text (the seventh form; the later family's looks); each row that meets fmt, with fmt's text TOLD by the authors' own Lean function (tested against real Go, not proved from fmt's source: count such statements apart). THE CARD IS WHAT COUNTS. Prove the row's statement (the work); the ties are given (YtfnecflkahmjoaaDoorTie.lean); close each card by the builder's one call (the guide's Derived/Test/ToyasCard.lean, 'card_holds'). Laid BY PROGRAM, IN A SANDBOX (cutbox-door.mjs). By AI agents, Wed Nov 11 2026. No macro, syntax, notation, axiom, sorry.
-/
import Derived.Test.YtfnecflkahmjoaaDoorRows
import GoSem.ClaimSeven
namespace Go.Proofs.YtfnecflkahmjoaaDoor
namespace Rows

/-- THE TIED CARD OF 'laws.FnExactAccessText'. -/
def fnExactAccessTextCard : Claim7 := { stood := { row := fnExactAccessTextRow, standIns := [], harness := (true, "4da26efea01236864da63ef586bb178c3a6aee30ba840f7740b898cef5ad9eed"), looks := false }, kinds := [], alts := [], laidByText := true, laidKinds := [.data, .data, .data], laidTests := true, laidLooks := .later }
def FnExactAccessTextCardSaid : Prop := Claim7.holds Tryd.pinned (.plain (OpenSpec.ofChange fnExactAccessTextSpec)) fnExactAccessTextCard

/-- THE SECOND FORM's CARD OF 'laws.FnExactAccessText'. -/
def fnExactAccessTextUptoCard : Claim7 := { stood := { row := fnExactAccessTextUptoRow, standIns := [], harness := (true, "4da26efea01236864da63ef586bb178c3a6aee30ba840f7740b898cef5ad9eed"), looks := false }, kinds := [], alts := [], laidByText := true, laidKinds := [.data, .data, .data], laidTests := true, laidLooks := .later }
def FnExactAccessTextUptoCardSaid : Prop := Claim7.holds Tryd.pinned (.plain (OpenSpec.upto fnExactAccessTextSpec)) fnExactAccessTextUptoCard
end Rows
end Go.Proofs.YtfnecflkahmjoaaDoor
