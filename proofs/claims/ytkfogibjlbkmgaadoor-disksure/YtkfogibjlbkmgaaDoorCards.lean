/-
  DERIVED. GIVEN WITH THE SEED: THE CARDS: each row of YtkfogibjlbkmgaaDoorRows.lean that lists a variable, with what it lists TIED to the program's text (the seventh form; the later family's looks); each row that meets fmt, with fmt's text TOLD by the authors' own Lean function (tested against real Go, not proved from fmt's source: count such statements apart). THE CARD IS WHAT COUNTS. Prove the row's statement (the work); the ties are given (YtkfogibjlbkmgaaDoorTie.lean); close each card by the builder's one call (the guide's Derived/Test/ToyasCard.lean, 'card_holds'). Laid BY PROGRAM, IN A SANDBOX (cutbox-door.mjs). By AI agents, Wed Nov 11 2026. No macro, syntax, notation, axiom, sorry.
-/
import Derived.Test.YtkfogibjlbkmgaaDoorRows
import GoSem.ClaimSeven
namespace Go.Proofs.YtkfogibjlbkmgaaDoor
namespace Rows

/-- THE TIED CARD OF 'consistorylaw2.DiskPlays'. -/
def diskPlaysCard : Claim7 := { stood := { row := diskPlaysRow, standIns := [], harness := (true, "8bcd66b5ef6bec5e6b334ab77a1146ec0f010580cd8eaaade5e2224ab51a67d6"), looks := true }, kinds := [], alts := [], laidByText := true, laidKinds := [.handle], laidTests := true, laidLooks := .later }
def DiskPlaysCardSaid : Prop := Claim7.holds Tryd.pinned (.plain (OpenSpec.ofChange diskPlaysSpec)) diskPlaysCard

/-- THE TIED CARD OF 'consistorylaw2.DiskSure'. -/
def diskSureCard : Claim7 := { stood := { row := diskSureRow, standIns := [], harness := (true, "8bcd66b5ef6bec5e6b334ab77a1146ec0f010580cd8eaaade5e2224ab51a67d6"), looks := true }, kinds := [], alts := [], laidByText := true, laidKinds := [.handle], laidTests := true, laidLooks := .later }
def DiskSureCardSaid : Prop := Claim7.holds Tryd.pinned (.plain (OpenSpec.ofChange diskSureSpec)) diskSureCard

/-- THE TIED CARD OF 'consistorylaw2.DiskHalts'. -/
def diskHaltsCard : Claim7 := { stood := { row := diskHaltsRow, standIns := [], harness := (true, "8bcd66b5ef6bec5e6b334ab77a1146ec0f010580cd8eaaade5e2224ab51a67d6"), looks := true }, kinds := [], alts := [], laidByText := true, laidKinds := [.handle], laidTests := true, laidLooks := .later }
def DiskHaltsCardSaid : Prop := Claim7.holds Tryd.pinned (.plain (OpenSpec.ofChange diskHaltsSpec)) diskHaltsCard

/-- THE SECOND FORM's CARD OF 'consistorylaw2.DiskPlays'. -/
def diskPlaysUptoCard : Claim7 := { stood := { row := diskPlaysUptoRow, standIns := [], harness := (true, "8bcd66b5ef6bec5e6b334ab77a1146ec0f010580cd8eaaade5e2224ab51a67d6"), looks := true }, kinds := [], alts := [], laidByText := true, laidKinds := [.handle], laidTests := true, laidLooks := .later }
def DiskPlaysUptoCardSaid : Prop := Claim7.holds Tryd.pinned (.plain (OpenSpec.upto diskPlaysSpec)) diskPlaysUptoCard

/-- THE SECOND FORM's CARD OF 'consistorylaw2.DiskSure'. -/
def diskSureUptoCard : Claim7 := { stood := { row := diskSureUptoRow, standIns := [], harness := (true, "8bcd66b5ef6bec5e6b334ab77a1146ec0f010580cd8eaaade5e2224ab51a67d6"), looks := true }, kinds := [], alts := [], laidByText := true, laidKinds := [.handle], laidTests := true, laidLooks := .later }
def DiskSureUptoCardSaid : Prop := Claim7.holds Tryd.pinned (.plain (OpenSpec.upto diskSureSpec)) diskSureUptoCard

/-- THE SECOND FORM's CARD OF 'consistorylaw2.DiskHalts'. -/
def diskHaltsUptoCard : Claim7 := { stood := { row := diskHaltsUptoRow, standIns := [], harness := (true, "8bcd66b5ef6bec5e6b334ab77a1146ec0f010580cd8eaaade5e2224ab51a67d6"), looks := true }, kinds := [], alts := [], laidByText := true, laidKinds := [.handle], laidTests := true, laidLooks := .later }
def DiskHaltsUptoCardSaid : Prop := Claim7.holds Tryd.pinned (.plain (OpenSpec.upto diskHaltsSpec)) diskHaltsUptoCard
end Rows
end Go.Proofs.YtkfogibjlbkmgaaDoor
