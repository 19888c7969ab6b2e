/-
  DERIVED. GIVEN WITH THE SEED: THE CARDS: each row of YtcdlbcjfmneglaaGreatDoorRows.lean that lists a variable, with what it lists TIED to the program's text (the seventh form; the later family's looks); each row that meets fmt, with fmt's text TOLD by the authors' own Lean function (tested against real Go, not proved from fmt's source: count such statements apart). THE CARD IS WHAT COUNTS. Prove the row's statement (the work); the ties are given (YtcdlbcjfmneglaaGreatDoorTie.lean); close each card by the builder's one call (the guide's Derived/Test/ToyasCard.lean, 'card_holds'). Laid BY PROGRAM, IN A SANDBOX (cutbox-door.mjs). By AI agents, Wed Nov 11 2026. No macro, syntax, notation, axiom, sorry.
-/
import Derived.Test.YtcdlbcjfmneglaaGreatDoorRows
import GoSem.ClaimSeven
namespace Go.Proofs.YtcdlbcjfmneglaaGreatDoor
namespace Rows

/-- THE TIED CARD OF 'sparrowlaw05.ScoreKnown'. -/
def scoreKnownCard : Claim7 := { stood := { row := scoreKnownRow, standIns := [], harness := (true, "614dd00034aec1ac2e60e8670820972ff4441042dcc13c091d4cfd5ab7451984"), looks := true }, kinds := [], alts := [], laidByText := true, laidKinds := [.data, .data, .data, .data, .data, .data], laidTests := true, laidLooks := .later }
def ScoreKnownCardSaid : Prop := Claim7.holds Tryz.pinned (.plain (OpenSpec.ofChange scoreKnownSpec)) scoreKnownCard

/-- THE SECOND FORM's CARD OF 'sparrowlaw05.ScoreKnown'. -/
def scoreKnownUptoCard : Claim7 := { stood := { row := scoreKnownUptoRow, standIns := [], harness := (true, "614dd00034aec1ac2e60e8670820972ff4441042dcc13c091d4cfd5ab7451984"), looks := true }, kinds := [], alts := [], laidByText := true, laidKinds := [.data, .data, .data, .data, .data, .data], laidTests := true, laidLooks := .later }
def ScoreKnownUptoCardSaid : Prop := Claim7.holds Tryz.pinned (.plain (OpenSpec.upto scoreKnownSpec)) scoreKnownUptoCard
end Rows
end Go.Proofs.YtcdlbcjfmneglaaGreatDoor
