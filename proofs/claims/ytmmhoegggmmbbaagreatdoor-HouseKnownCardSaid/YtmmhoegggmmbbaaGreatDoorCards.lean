/-
  DERIVED. GIVEN WITH THE SEED: THE CARDS: each row of YtmmhoegggmmbbaaGreatDoorRows.lean that lists a variable, with what it lists TIED to the program's text (the seventh form; the later family's looks); each row that meets fmt, with fmt's text TOLD by the authors' own Lean function (tested against real Go, not proved from fmt's source: count such statements apart). THE CARD IS WHAT COUNTS. Prove the row's statement (the work); the ties are given (YtmmhoegggmmbbaaGreatDoorTie.lean); close each card by the builder's one call (the guide's Derived/Test/ToyasCard.lean, 'card_holds'). Laid BY PROGRAM, IN A SANDBOX (cutbox-door.mjs). By AI agents, Wed Nov 11 2026. No macro, syntax, notation, axiom, sorry.
-/
import Derived.Test.YtmmhoegggmmbbaaGreatDoorRows
import GoSem.ClaimSeven
namespace Go.Proofs.YtmmhoegggmmbbaaGreatDoor
namespace Rows

/-- THE TIED CARD OF 'sparrowlaw04.HouseKnown'. -/
def houseKnownCard : Claim7 := { stood := { row := houseKnownRow, standIns := [], harness := (true, "33596e76a217354d29a62c7835b0b760c4127dba488f23f2c74ec2f95582a173"), looks := true }, kinds := [], alts := [], laidByText := true, laidKinds := [.data, .data, .data, .data, .sentinel, .sentinel, .data, .data, .data, .data, .data, .data, .pinned], laidTests := true, laidLooks := .later }
def HouseKnownCardSaid : Prop := Claim7.holds Tryz.pinned (.plain (OpenSpec.ofChange houseKnownSpec)) houseKnownCard

/-- THE SECOND FORM's CARD OF 'sparrowlaw04.HouseKnown'. -/
def houseKnownUptoCard : Claim7 := { stood := { row := houseKnownUptoRow, standIns := [], harness := (true, "33596e76a217354d29a62c7835b0b760c4127dba488f23f2c74ec2f95582a173"), looks := true }, kinds := [], alts := [], laidByText := true, laidKinds := [.data, .data, .data, .data, .sentinel, .sentinel, .data, .data, .data, .data, .data, .data, .pinned], laidTests := true, laidLooks := .later }
def HouseKnownUptoCardSaid : Prop := Claim7.holds Tryz.pinned (.plain (OpenSpec.upto houseKnownSpec)) houseKnownUptoCard
end Rows
end Go.Proofs.YtmmhoegggmmbbaaGreatDoor
