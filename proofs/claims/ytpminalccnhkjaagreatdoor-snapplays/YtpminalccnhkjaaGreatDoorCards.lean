/-
  DERIVED. GIVEN WITH THE SEED: THE CARDS: each row of YtpminalccnhkjaaGreatDoorRows.lean that lists a variable, with what it lists TIED to the program's text (the seventh form; the later family's looks); each row that meets fmt, with fmt's text TOLD by the authors' own Lean function (tested against real Go, not proved from fmt's source: count such statements apart). THE CARD IS WHAT COUNTS. Prove the row's statement (the work); the ties are given (YtpminalccnhkjaaGreatDoorTie.lean); close each card by the builder's one call (the guide's Derived/Test/ToyasCard.lean, 'card_holds'). Laid BY PROGRAM, IN A SANDBOX (cutbox-door.mjs). By AI agents, Wed Nov 11 2026. No macro, syntax, notation, axiom, sorry.
-/
import Derived.Test.YtpminalccnhkjaaGreatDoorRows
import GoSem.ClaimSeven
namespace Go.Proofs.YtpminalccnhkjaaGreatDoor
namespace Rows

/-- THE TIED CARD OF 'consistorylaw4.SnapRounds'. -/
def snapRoundsCard : Claim7 := { stood := { row := snapRoundsRow, standIns := [], harness := (true, "a71dedeec2f4070a4304d868afef771f2e4fb1c725cee24dccfe51768c6495f9"), looks := true }, kinds := [], alts := [], laidByText := true, laidKinds := [.handle, .data], laidTests := true, laidLooks := .later }
def SnapRoundsCardSaid : Prop := Claim7.holds Tryz.pinned (.plain (OpenSpec.ofChange snapRoundsSpec)) snapRoundsCard

/-- THE TIED CARD OF 'consistorylaw4.SnapPlays'. -/
def snapPlaysCard : Claim7 := { stood := { row := snapPlaysRow, standIns := [], harness := (true, "a71dedeec2f4070a4304d868afef771f2e4fb1c725cee24dccfe51768c6495f9"), looks := true }, kinds := [], alts := [], laidByText := true, laidKinds := [.handle, .data], laidTests := true, laidLooks := .later }
def SnapPlaysCardSaid : Prop := Claim7.holds Tryz.pinned (.plain (OpenSpec.ofChange snapPlaysSpec)) snapPlaysCard

/-- THE TIED CARD OF 'consistorylaw4.SnapChunks'. -/
def snapChunksCard : Claim7 := { stood := { row := snapChunksRow, standIns := [], harness := (true, "a71dedeec2f4070a4304d868afef771f2e4fb1c725cee24dccfe51768c6495f9"), looks := true }, kinds := [], alts := [], laidByText := true, laidKinds := [.handle, .data], laidTests := true, laidLooks := .later }
def SnapChunksCardSaid : Prop := Claim7.holds Tryz.pinned (.plain (OpenSpec.ofChange snapChunksSpec)) snapChunksCard

/-- THE SECOND FORM's CARD OF 'consistorylaw4.SnapRounds'. -/
def snapRoundsUptoCard : Claim7 := { stood := { row := snapRoundsUptoRow, standIns := [], harness := (true, "a71dedeec2f4070a4304d868afef771f2e4fb1c725cee24dccfe51768c6495f9"), looks := true }, kinds := [], alts := [], laidByText := true, laidKinds := [.handle, .data], laidTests := true, laidLooks := .later }
def SnapRoundsUptoCardSaid : Prop := Claim7.holds Tryz.pinned (.plain (OpenSpec.upto snapRoundsSpec)) snapRoundsUptoCard

/-- THE SECOND FORM's CARD OF 'consistorylaw4.SnapPlays'. -/
def snapPlaysUptoCard : Claim7 := { stood := { row := snapPlaysUptoRow, standIns := [], harness := (true, "a71dedeec2f4070a4304d868afef771f2e4fb1c725cee24dccfe51768c6495f9"), looks := true }, kinds := [], alts := [], laidByText := true, laidKinds := [.handle, .data], laidTests := true, laidLooks := .later }
def SnapPlaysUptoCardSaid : Prop := Claim7.holds Tryz.pinned (.plain (OpenSpec.upto snapPlaysSpec)) snapPlaysUptoCard

/-- THE SECOND FORM's CARD OF 'consistorylaw4.SnapChunks'. -/
def snapChunksUptoCard : Claim7 := { stood := { row := snapChunksUptoRow, standIns := [], harness := (true, "a71dedeec2f4070a4304d868afef771f2e4fb1c725cee24dccfe51768c6495f9"), looks := true }, kinds := [], alts := [], laidByText := true, laidKinds := [.handle, .data], laidTests := true, laidLooks := .later }
def SnapChunksUptoCardSaid : Prop := Claim7.holds Tryz.pinned (.plain (OpenSpec.upto snapChunksSpec)) snapChunksUptoCard
end Rows
end Go.Proofs.YtpminalccnhkjaaGreatDoor
