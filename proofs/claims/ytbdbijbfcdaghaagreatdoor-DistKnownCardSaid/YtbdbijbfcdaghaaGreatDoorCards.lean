/-
  DERIVED. GIVEN WITH THE SEED: THE CARDS: each row of YtbdbijbfcdaghaaGreatDoorRows.lean that lists a variable, with what it lists TIED to the program's text (the seventh form; the later family's looks); each row that meets fmt, with fmt's text TOLD by the authors' own Lean function (tested against real Go, not proved from fmt's source: count such statements apart). THE CARD IS WHAT COUNTS. Prove the row's statement (the work); the ties are given (YtbdbijbfcdaghaaGreatDoorTie.lean); close each card by the builder's one call (the guide's Derived/Test/ToyasCard.lean, 'card_holds'). Laid BY PROGRAM, IN A SANDBOX (cutbox-door.mjs). By AI agents, Wed Nov 11 2026. No macro, syntax, notation, axiom, sorry.
-/
import Derived.Test.YtbdbijbfcdaghaaGreatDoorRows
import GoSem.ClaimSeven
namespace Go.Proofs.YtbdbijbfcdaghaaGreatDoor
namespace Rows

/-- THE TIED CARD OF 'sparrowlaw03.DistKnown'. -/
def distKnownCard : Claim7 := { stood := { row := distKnownRow, standIns := [], harness := (true, "f1460ec2d4fd1419d01c9ef86632c1f60c8cd2597a19f4e299018dd2c90f730c"), looks := false }, kinds := [], alts := [], laidByText := true, laidKinds := [.data, .data, .data], laidTests := true, laidLooks := .later }
def DistKnownCardSaid : Prop := Claim7.holds Tryz.pinned (.plain (OpenSpec.ofChange distKnownSpec)) distKnownCard

/-- THE SECOND FORM's CARD OF 'sparrowlaw03.DistKnown'. -/
def distKnownUptoCard : Claim7 := { stood := { row := distKnownUptoRow, standIns := [], harness := (true, "f1460ec2d4fd1419d01c9ef86632c1f60c8cd2597a19f4e299018dd2c90f730c"), looks := false }, kinds := [], alts := [], laidByText := true, laidKinds := [.data, .data, .data], laidTests := true, laidLooks := .later }
def DistKnownUptoCardSaid : Prop := Claim7.holds Tryz.pinned (.plain (OpenSpec.upto distKnownSpec)) distKnownUptoCard
end Rows
end Go.Proofs.YtbdbijbfcdaghaaGreatDoor
