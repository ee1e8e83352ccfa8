/-
  DERIVED. GIVEN WITH THE SEED: THE CARDS: each row of YtpepilcdlhkmkaaGreatDoorRows.lean that lists a variable, with what it lists TIED to the program's text (the seventh form; the later family's looks); each row that meets fmt, with fmt's text TOLD by the authors' own Lean function (tested against real Go, not proved from fmt's source: count such statements apart). THE CARD IS WHAT COUNTS. Prove the row's statement (the work); the ties are given (YtpepilcdlhkmkaaGreatDoorTie.lean); close each card by the builder's one call (the guide's Derived/Test/ToyasCard.lean, 'card_holds'). Laid BY PROGRAM, IN A SANDBOX (cutbox-door.mjs). By AI agents, Wed Nov 11 2026. No macro, syntax, notation, axiom, sorry.
-/
import Derived.Test.YtpepilcdlhkmkaaGreatDoorRows
import GoSem.ClaimSeven
namespace Go.Proofs.YtpepilcdlhkmkaaGreatDoor
namespace Rows

/-- THE TIED CARD OF 'consistorylaw5.NetPlays'. -/
def netPlaysCard : Claim7 := { stood := { row := netPlaysRow, standIns := [], harness := (true, "eacca58216e0b5b5de62f6a6a5dc92dc70b6d216d39e38ce3973f310fec243c7"), looks := true }, kinds := [], alts := [], laidByText := true, laidKinds := [.data, .data, .data, .handle], laidTests := true, laidLooks := .later }
def NetPlaysCardSaid : Prop := Claim7.holds Tryz.pinned (.plain (OpenSpec.ofChange netPlaysSpec)) netPlaysCard

/-- THE TIED CARD OF 'consistorylaw5.NetFull'. -/
def netFullCard : Claim7 := { stood := { row := netFullRow, standIns := [], harness := (true, "eacca58216e0b5b5de62f6a6a5dc92dc70b6d216d39e38ce3973f310fec243c7"), looks := true }, kinds := [], alts := [], laidByText := true, laidKinds := [.data, .data, .data, .handle], laidTests := true, laidLooks := .later }
def NetFullCardSaid : Prop := Claim7.holds Tryz.pinned (.plain (OpenSpec.ofChange netFullSpec)) netFullCard

/-- THE TIED CARD OF 'consistorylaw5.NetBag'. -/
def netBagCard : Claim7 := { stood := { row := netBagRow, standIns := [], harness := (true, "eacca58216e0b5b5de62f6a6a5dc92dc70b6d216d39e38ce3973f310fec243c7"), looks := true }, kinds := [], alts := [], laidByText := true, laidKinds := [.data, .data, .data, .handle], laidTests := true, laidLooks := .later }
def NetBagCardSaid : Prop := Claim7.holds Tryz.pinned (.plain (OpenSpec.ofChange netBagSpec)) netBagCard

/-- THE SECOND FORM's CARD OF 'consistorylaw5.NetPlays'. -/
def netPlaysUptoCard : Claim7 := { stood := { row := netPlaysUptoRow, standIns := [], harness := (true, "eacca58216e0b5b5de62f6a6a5dc92dc70b6d216d39e38ce3973f310fec243c7"), looks := true }, kinds := [], alts := [], laidByText := true, laidKinds := [.data, .data, .data, .handle], laidTests := true, laidLooks := .later }
def NetPlaysUptoCardSaid : Prop := Claim7.holds Tryz.pinned (.plain (OpenSpec.upto netPlaysSpec)) netPlaysUptoCard

/-- THE SECOND FORM's CARD OF 'consistorylaw5.NetFull'. -/
def netFullUptoCard : Claim7 := { stood := { row := netFullUptoRow, standIns := [], harness := (true, "eacca58216e0b5b5de62f6a6a5dc92dc70b6d216d39e38ce3973f310fec243c7"), looks := true }, kinds := [], alts := [], laidByText := true, laidKinds := [.data, .data, .data, .handle], laidTests := true, laidLooks := .later }
def NetFullUptoCardSaid : Prop := Claim7.holds Tryz.pinned (.plain (OpenSpec.upto netFullSpec)) netFullUptoCard

/-- THE SECOND FORM's CARD OF 'consistorylaw5.NetBag'. -/
def netBagUptoCard : Claim7 := { stood := { row := netBagUptoRow, standIns := [], harness := (true, "eacca58216e0b5b5de62f6a6a5dc92dc70b6d216d39e38ce3973f310fec243c7"), looks := true }, kinds := [], alts := [], laidByText := true, laidKinds := [.data, .data, .data, .handle], laidTests := true, laidLooks := .later }
def NetBagUptoCardSaid : Prop := Claim7.holds Tryz.pinned (.plain (OpenSpec.upto netBagSpec)) netBagUptoCard
end Rows
end Go.Proofs.YtpepilcdlhkmkaaGreatDoor
