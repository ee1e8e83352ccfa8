/-
  DERIVED. GIVEN WITH THE SEED: THE CARDS: each row of YtehgoioinogmkabGreatDoorRows.lean that lists a variable, with what it lists TIED to the program's text (the seventh form; the later family's looks); each row that meets fmt, with fmt's text TOLD by the authors' own Lean function (tested against real Go, not proved from fmt's source: count such statements apart). THE CARD IS WHAT COUNTS. Prove the row's statement (the work); the ties are given (YtehgoioinogmkabGreatDoorTie.lean); close each card by the builder's one call (the guide's Derived/Test/ToyasCard.lean, 'card_holds'). Laid BY PROGRAM, IN A SANDBOX (cutbox-door.mjs). By AI agents, Wed Nov 11 2026. No macro, syntax, notation, axiom, sorry.
-/
import Derived.Test.YtehgoioinogmkabGreatDoorRows
import GoSem.ClaimSeven
namespace Go.Proofs.YtehgoioinogmkabGreatDoor
namespace Rows

/-- THE TIED CARD OF 'consistorylaw14.ExprIns'. -/
def exprInsCard : Claim7 := { stood := { row := exprInsRow, standIns := [], harness := (true, "ff8b4527ecb59e4500dbb3ad08ea4878b3499cd561c96ab393ebebaf3752342e"), looks := true }, kinds := [], alts := [], laidByText := true, laidKinds := [.handle], laidTests := true, laidLooks := .later }
def ExprInsCardSaid : Prop := Claim7.holds Tryz.pinned (.plain (OpenSpec.ofChange exprInsSpec)) exprInsCard

/-- THE SECOND FORM's CARD OF 'consistorylaw14.ExprIns'. -/
def exprInsUptoCard : Claim7 := { stood := { row := exprInsUptoRow, standIns := [], harness := (true, "ff8b4527ecb59e4500dbb3ad08ea4878b3499cd561c96ab393ebebaf3752342e"), looks := true }, kinds := [], alts := [], laidByText := true, laidKinds := [.handle], laidTests := true, laidLooks := .later }
def ExprInsUptoCardSaid : Prop := Claim7.holds Tryz.pinned (.plain (OpenSpec.upto exprInsSpec)) exprInsUptoCard
end Rows
end Go.Proofs.YtehgoioinogmkabGreatDoor
