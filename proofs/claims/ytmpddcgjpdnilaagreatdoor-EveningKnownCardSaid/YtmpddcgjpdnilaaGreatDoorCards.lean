/-
  DERIVED. GIVEN WITH THE SEED: THE CARDS: each row of YtmpddcgjpdnilaaGreatDoorRows.lean that lists a variable, with what it lists TIED to the program's text (the seventh form; the later family's looks); each row that meets fmt, with fmt's text TOLD by the authors' own Lean function (tested against real Go, not proved from fmt's source: count such statements apart). THE CARD IS WHAT COUNTS. Prove the row's statement (the work); the ties are given (YtmpddcgjpdnilaaGreatDoorTie.lean); close each card by the builder's one call (the guide's Derived/Test/ToyasCard.lean, 'card_holds'). Laid BY PROGRAM, IN A SANDBOX (cutbox-door.mjs). By AI agents, Wed Nov 11 2026. No macro, syntax, notation, axiom, sorry.
-/
import Derived.Test.YtmpddcgjpdnilaaGreatDoorRows
import GoSem.ClaimSeven
namespace Go.Proofs.YtmpddcgjpdnilaaGreatDoor
namespace Rows

/-- THE TIED CARD OF 'sparrowlaw07.EveningKnown'. -/
def eveningKnownCard : Claim7 := { stood := { row := eveningKnownRow, standIns := [], harness := (true, "160c4eea8515dfe3f961116f579090f3e2db75c4aa49a97a4e23bd1990fc96aa"), looks := false }, kinds := [], alts := [], laidByText := true, laidKinds := [.data], laidTests := true, laidLooks := .later }
def EveningKnownCardSaid : Prop := Claim7.holds Tryz.pinned (.plain (OpenSpec.ofChange eveningKnownSpec)) eveningKnownCard

/-- THE SECOND FORM's CARD OF 'sparrowlaw07.EveningKnown'. -/
def eveningKnownUptoCard : Claim7 := { stood := { row := eveningKnownUptoRow, standIns := [], harness := (true, "160c4eea8515dfe3f961116f579090f3e2db75c4aa49a97a4e23bd1990fc96aa"), looks := false }, kinds := [], alts := [], laidByText := true, laidKinds := [.data], laidTests := true, laidLooks := .later }
def EveningKnownUptoCardSaid : Prop := Claim7.holds Tryz.pinned (.plain (OpenSpec.upto eveningKnownSpec)) eveningKnownUptoCard
end Rows
end Go.Proofs.YtmpddcgjpdnilaaGreatDoor
