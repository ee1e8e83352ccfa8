/-
  DERIVED. GIVEN WITH THE SEED: THE CARDS: each row of YtklclbegmpafpaaGreatDoorRows.lean that lists a variable, with what it lists TIED to the program's text (the seventh form; the later family's looks); each row that meets fmt, with fmt's text TOLD by the authors' own Lean function (tested against real Go, not proved from fmt's source: count such statements apart). THE CARD IS WHAT COUNTS. Prove the row's statement (the work); the ties are given (YtklclbegmpafpaaGreatDoorTie.lean); close each card by the builder's one call (the guide's Derived/Test/ToyasCard.lean, 'card_holds'). Laid BY PROGRAM, IN A SANDBOX (cutbox-door.mjs). By AI agents, Wed Nov 11 2026. No macro, syntax, notation, axiom, sorry.
-/
import Derived.Test.YtklclbegmpafpaaGreatDoorRows
import GoSem.ClaimSeven
namespace Go.Proofs.YtklclbegmpafpaaGreatDoor
namespace Rows

/-- THE TIED CARD OF 'consistorylaw1.WireMessages'. -/
def wireMessagesCard : Claim7 := { stood := { row := wireMessagesRow, standIns := [], harness := (true, "344805e0d47ffb1fe762089c317f154a45bfc3d731d03e57da560ebcb02e2797"), looks := true }, kinds := [], alts := [], laidByText := true, laidKinds := [.handle, .data], laidTests := true, laidLooks := .later }
def WireMessagesCardSaid : Prop := Claim7.holds Tryz.pinned (.plain (OpenSpec.ofChange wireMessagesSpec)) wireMessagesCard

/-- THE SECOND FORM's CARD OF 'consistorylaw1.WireMessages'. -/
def wireMessagesUptoCard : Claim7 := { stood := { row := wireMessagesUptoRow, standIns := [], harness := (true, "344805e0d47ffb1fe762089c317f154a45bfc3d731d03e57da560ebcb02e2797"), looks := true }, kinds := [], alts := [], laidByText := true, laidKinds := [.handle, .data], laidTests := true, laidLooks := .later }
def WireMessagesUptoCardSaid : Prop := Claim7.holds Tryz.pinned (.plain (OpenSpec.upto wireMessagesSpec)) wireMessagesUptoCard
end Rows
end Go.Proofs.YtklclbegmpafpaaGreatDoor
