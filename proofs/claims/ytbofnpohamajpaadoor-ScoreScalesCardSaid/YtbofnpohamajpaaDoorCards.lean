/-
  DERIVED. GIVEN WITH THE SEED: THE CARDS: each row of YtbofnpohamajpaaDoorRows.lean that lists a variable, with what it lists TIED to the program's text (the seventh form; the later family's looks); each row that meets fmt, with fmt's text TOLD by the authors' own Lean function (tested against real Go, not proved from fmt's source: count such statements apart). THE CARD IS WHAT COUNTS. Prove the row's statement (the work); the ties are given (YtbofnpohamajpaaDoorTie.lean); close each card by the builder's one call (the guide's Derived/Test/ToyasCard.lean, 'card_holds'). Laid BY PROGRAM, IN A SANDBOX (cutbox-door.mjs). By AI agents, Wed Nov 11 2026. No macro, syntax, notation, axiom, sorry.
-/
import Derived.Test.YtbofnpohamajpaaDoorRows
import GoSem.ClaimSeven
namespace Go.Proofs.YtbofnpohamajpaaDoor
namespace Rows

/-- THE TIED CARD OF 'sparrowlaw05.ScoreScales'. -/
def scoreScalesCard : Claim7 := { stood := { row := scoreScalesRow, standIns := [], harness := (true, "15bd198ac9e00793e516e003135e9128b20ab35034b2638040b2a4a900772cc6"), looks := false }, kinds := [], alts := [], laidByText := true, laidKinds := [.data], laidTests := true, laidLooks := .later }
def ScoreScalesCardSaid : Prop := Claim7.holds Tryd.pinned (.plain (OpenSpec.ofChange scoreScalesSpec)) scoreScalesCard

/-- THE SECOND FORM's CARD OF 'sparrowlaw05.ScoreScales'. -/
def scoreScalesUptoCard : Claim7 := { stood := { row := scoreScalesUptoRow, standIns := [], harness := (true, "15bd198ac9e00793e516e003135e9128b20ab35034b2638040b2a4a900772cc6"), looks := false }, kinds := [], alts := [], laidByText := true, laidKinds := [.data], laidTests := true, laidLooks := .later }
def ScoreScalesUptoCardSaid : Prop := Claim7.holds Tryd.pinned (.plain (OpenSpec.upto scoreScalesSpec)) scoreScalesUptoCard
end Rows
end Go.Proofs.YtbofnpohamajpaaDoor
