/-
  DERIVED. GIVEN WITH THE SEED: THE CARDS: each row of YtehgoioinogmkaaGreatDoorRows.lean that lists a variable, with what it lists TIED to the program's text (the seventh form; the later family's looks); each row that meets fmt, with fmt's text TOLD by the authors' own Lean function (tested against real Go, not proved from fmt's source: count such statements apart). THE CARD IS WHAT COUNTS. Prove the row's statement (the work); the ties are given (YtehgoioinogmkaaGreatDoorTie.lean); close each card by the builder's one call (the guide's Derived/Test/ToyasCard.lean, 'card_holds'). Laid BY PROGRAM, IN A SANDBOX (cutbox-door.mjs). By AI agents, Wed Nov 11 2026. No macro, syntax, notation, axiom, sorry.
-/
import Derived.Test.YtehgoioinogmkaaGreatDoorRows
import GoSem.ClaimSeven
namespace Go.Proofs.YtehgoioinogmkaaGreatDoor
namespace Rows

/-- THE TIED CARD OF 'consistorylaw14.ExprTells'. -/
def exprTellsCard : Claim7 := { stood := { row := exprTellsRow, standIns := [], harness := (true, "f44090cf02bf48cf2aa243c802d2afdea9ea8346e97e3dc84558b6740d966a53"), looks := true }, kinds := [], alts := [], laidByText := true, laidKinds := [.handle], laidTests := true, laidLooks := .later }
def ExprTellsCardSaid : Prop := Claim7.holds Tryz.pinned (.plain (OpenSpec.ofChange exprTellsSpec)) exprTellsCard

/-- THE TIED CARD OF 'consistorylaw14.ExprGroups'. -/
def exprGroupsCard : Claim7 := { stood := { row := exprGroupsRow, standIns := [], harness := (true, "f44090cf02bf48cf2aa243c802d2afdea9ea8346e97e3dc84558b6740d966a53"), looks := true }, kinds := [], alts := [], laidByText := true, laidKinds := [.handle], laidTests := true, laidLooks := .later }
def ExprGroupsCardSaid : Prop := Claim7.holds Tryz.pinned (.plain (OpenSpec.ofChange exprGroupsSpec)) exprGroupsCard

/-- THE TIED CARD OF 'consistorylaw14.ExprWorse'. -/
def exprWorseCard : Claim7 := { stood := { row := exprWorseRow, standIns := [], harness := (true, "f44090cf02bf48cf2aa243c802d2afdea9ea8346e97e3dc84558b6740d966a53"), looks := true }, kinds := [], alts := [], laidByText := true, laidKinds := [.handle], laidTests := true, laidLooks := .later }
def ExprWorseCardSaid : Prop := Claim7.holds Tryz.pinned (.plain (OpenSpec.ofChange exprWorseSpec)) exprWorseCard

/-- THE TIED CARD OF 'consistorylaw14.ExprSums'. -/
def exprSumsCard : Claim7 := { stood := { row := exprSumsRow, standIns := [], harness := (true, "f44090cf02bf48cf2aa243c802d2afdea9ea8346e97e3dc84558b6740d966a53"), looks := true }, kinds := [], alts := [], laidByText := true, laidKinds := [.handle], laidTests := true, laidLooks := .later }
def ExprSumsCardSaid : Prop := Claim7.holds Tryz.pinned (.plain (OpenSpec.ofChange exprSumsSpec)) exprSumsCard

/-- THE TIED CARD OF 'consistorylaw14.ExprShort'. -/
def exprShortCard : Claim7 := { stood := { row := exprShortRow, standIns := [], harness := (true, "f44090cf02bf48cf2aa243c802d2afdea9ea8346e97e3dc84558b6740d966a53"), looks := true }, kinds := [], alts := [], laidByText := true, laidKinds := [.handle], laidTests := true, laidLooks := .later }
def ExprShortCardSaid : Prop := Claim7.holds Tryz.pinned (.plain (OpenSpec.ofChange exprShortSpec)) exprShortCard

/-- THE TIED CARD OF 'consistorylaw14.ExprCases'. -/
def exprCasesCard : Claim7 := { stood := { row := exprCasesRow, standIns := [], harness := (true, "f44090cf02bf48cf2aa243c802d2afdea9ea8346e97e3dc84558b6740d966a53"), looks := true }, kinds := [], alts := [], laidByText := true, laidKinds := [.handle], laidTests := true, laidLooks := .later }
def ExprCasesCardSaid : Prop := Claim7.holds Tryz.pinned (.plain (OpenSpec.ofChange exprCasesSpec)) exprCasesCard

/-- THE SECOND FORM's CARD OF 'consistorylaw14.ExprTells'. -/
def exprTellsUptoCard : Claim7 := { stood := { row := exprTellsUptoRow, standIns := [], harness := (true, "f44090cf02bf48cf2aa243c802d2afdea9ea8346e97e3dc84558b6740d966a53"), looks := true }, kinds := [], alts := [], laidByText := true, laidKinds := [.handle], laidTests := true, laidLooks := .later }
def ExprTellsUptoCardSaid : Prop := Claim7.holds Tryz.pinned (.plain (OpenSpec.upto exprTellsSpec)) exprTellsUptoCard

/-- THE SECOND FORM's CARD OF 'consistorylaw14.ExprGroups'. -/
def exprGroupsUptoCard : Claim7 := { stood := { row := exprGroupsUptoRow, standIns := [], harness := (true, "f44090cf02bf48cf2aa243c802d2afdea9ea8346e97e3dc84558b6740d966a53"), looks := true }, kinds := [], alts := [], laidByText := true, laidKinds := [.handle], laidTests := true, laidLooks := .later }
def ExprGroupsUptoCardSaid : Prop := Claim7.holds Tryz.pinned (.plain (OpenSpec.upto exprGroupsSpec)) exprGroupsUptoCard

/-- THE SECOND FORM's CARD OF 'consistorylaw14.ExprWorse'. -/
def exprWorseUptoCard : Claim7 := { stood := { row := exprWorseUptoRow, standIns := [], harness := (true, "f44090cf02bf48cf2aa243c802d2afdea9ea8346e97e3dc84558b6740d966a53"), looks := true }, kinds := [], alts := [], laidByText := true, laidKinds := [.handle], laidTests := true, laidLooks := .later }
def ExprWorseUptoCardSaid : Prop := Claim7.holds Tryz.pinned (.plain (OpenSpec.upto exprWorseSpec)) exprWorseUptoCard

/-- THE SECOND FORM's CARD OF 'consistorylaw14.ExprSums'. -/
def exprSumsUptoCard : Claim7 := { stood := { row := exprSumsUptoRow, standIns := [], harness := (true, "f44090cf02bf48cf2aa243c802d2afdea9ea8346e97e3dc84558b6740d966a53"), looks := true }, kinds := [], alts := [], laidByText := true, laidKinds := [.handle], laidTests := true, laidLooks := .later }
def ExprSumsUptoCardSaid : Prop := Claim7.holds Tryz.pinned (.plain (OpenSpec.upto exprSumsSpec)) exprSumsUptoCard

/-- THE SECOND FORM's CARD OF 'consistorylaw14.ExprShort'. -/
def exprShortUptoCard : Claim7 := { stood := { row := exprShortUptoRow, standIns := [], harness := (true, "f44090cf02bf48cf2aa243c802d2afdea9ea8346e97e3dc84558b6740d966a53"), looks := true }, kinds := [], alts := [], laidByText := true, laidKinds := [.handle], laidTests := true, laidLooks := .later }
def ExprShortUptoCardSaid : Prop := Claim7.holds Tryz.pinned (.plain (OpenSpec.upto exprShortSpec)) exprShortUptoCard

/-- THE SECOND FORM's CARD OF 'consistorylaw14.ExprCases'. -/
def exprCasesUptoCard : Claim7 := { stood := { row := exprCasesUptoRow, standIns := [], harness := (true, "f44090cf02bf48cf2aa243c802d2afdea9ea8346e97e3dc84558b6740d966a53"), looks := true }, kinds := [], alts := [], laidByText := true, laidKinds := [.handle], laidTests := true, laidLooks := .later }
def ExprCasesUptoCardSaid : Prop := Claim7.holds Tryz.pinned (.plain (OpenSpec.upto exprCasesSpec)) exprCasesUptoCard
end Rows
end Go.Proofs.YtehgoioinogmkaaGreatDoor
