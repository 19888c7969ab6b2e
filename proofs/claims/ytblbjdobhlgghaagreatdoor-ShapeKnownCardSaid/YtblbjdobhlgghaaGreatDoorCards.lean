/-
  DERIVED. GIVEN WITH THE SEED: THE CARDS: each row of YtblbjdobhlgghaaGreatDoorRows.lean that lists a variable, with what it lists TIED to the program's text (the seventh form; the later family's looks); each row that meets fmt, with fmt's text TOLD by the authors' own Lean function (tested against real Go, not proved from fmt's source: count such statements apart). THE CARD IS WHAT COUNTS. Prove the row's statement (the work); the ties are given (YtblbjdobhlgghaaGreatDoorTie.lean); close each card by the builder's one call (the guide's Derived/Test/ToyasCard.lean, 'card_holds'). Laid BY PROGRAM, IN A SANDBOX (cutbox-door.mjs). By AI agents, Wed Nov 11 2026. No macro, syntax, notation, axiom, sorry.
-/
import Derived.Test.YtblbjdobhlgghaaGreatDoorRows
import GoSem.ClaimSeven
namespace Go.Proofs.YtblbjdobhlgghaaGreatDoor
namespace Rows

/-- THE TIED CARD OF 'sparrowlaw02.ShapeForms'. -/
def shapeFormsCard : Claim7 := { stood := { row := shapeFormsRow, standIns := [], harness := (true, "9a88bf568b2fbf43936f83aceeb5bd07bdce84c1ad21e7c4c45026a3f3fdfa7f"), looks := false }, kinds := [], alts := [], laidByText := true, laidKinds := [.data, .data], laidTests := true, laidLooks := .later }
def ShapeFormsCardSaid : Prop := Claim7.holds Tryz.pinned (.plain (OpenSpec.ofChange shapeFormsSpec)) shapeFormsCard

/-- THE TIED CARD OF 'sparrowlaw02.ShapeHands'. -/
def shapeHandsCard : Claim7 := { stood := { row := shapeHandsRow, standIns := [], harness := (true, "9a88bf568b2fbf43936f83aceeb5bd07bdce84c1ad21e7c4c45026a3f3fdfa7f"), looks := false }, kinds := [], alts := [], laidByText := true, laidKinds := [.data, .data], laidTests := true, laidLooks := .later }
def ShapeHandsCardSaid : Prop := Claim7.holds Tryz.pinned (.plain (OpenSpec.ofChange shapeHandsSpec)) shapeHandsCard

/-- THE TIED CARD OF 'sparrowlaw02.ShapeSplits'. -/
def shapeSplitsCard : Claim7 := { stood := { row := shapeSplitsRow, standIns := [], harness := (true, "9a88bf568b2fbf43936f83aceeb5bd07bdce84c1ad21e7c4c45026a3f3fdfa7f"), looks := false }, kinds := [], alts := [], laidByText := true, laidKinds := [.data, .data], laidTests := true, laidLooks := .later }
def ShapeSplitsCardSaid : Prop := Claim7.holds Tryz.pinned (.plain (OpenSpec.ofChange shapeSplitsSpec)) shapeSplitsCard

/-- THE TIED CARD OF 'sparrowlaw02.ShapeReads'. -/
def shapeReadsCard : Claim7 := { stood := { row := shapeReadsRow, standIns := [], harness := (true, "9a88bf568b2fbf43936f83aceeb5bd07bdce84c1ad21e7c4c45026a3f3fdfa7f"), looks := false }, kinds := [], alts := [], laidByText := true, laidKinds := [.data, .data], laidTests := true, laidLooks := .later }
def ShapeReadsCardSaid : Prop := Claim7.holds Tryz.pinned (.plain (OpenSpec.ofChange shapeReadsSpec)) shapeReadsCard

/-- THE TIED CARD OF 'sparrowlaw02.ShapeIs'. -/
def shapeIsCard : Claim7 := { stood := { row := shapeIsRow, standIns := [], harness := (true, "9a88bf568b2fbf43936f83aceeb5bd07bdce84c1ad21e7c4c45026a3f3fdfa7f"), looks := false }, kinds := [], alts := [], laidByText := true, laidKinds := [.data, .data], laidTests := true, laidLooks := .later }
def ShapeIsCardSaid : Prop := Claim7.holds Tryz.pinned (.plain (OpenSpec.ofChange shapeIsSpec)) shapeIsCard

/-- THE TIED CARD OF 'sparrowlaw02.ShapeWins'. -/
def shapeWinsCard : Claim7 := { stood := { row := shapeWinsRow, standIns := [], harness := (true, "9a88bf568b2fbf43936f83aceeb5bd07bdce84c1ad21e7c4c45026a3f3fdfa7f"), looks := false }, kinds := [], alts := [], laidByText := true, laidKinds := [.data, .data], laidTests := true, laidLooks := .later }
def ShapeWinsCardSaid : Prop := Claim7.holds Tryz.pinned (.plain (OpenSpec.ofChange shapeWinsSpec)) shapeWinsCard

/-- THE TIED CARD OF 'sparrowlaw02.ShapeKnown'. -/
def shapeKnownCard : Claim7 := { stood := { row := shapeKnownRow, standIns := [], harness := (true, "9a88bf568b2fbf43936f83aceeb5bd07bdce84c1ad21e7c4c45026a3f3fdfa7f"), looks := false }, kinds := [], alts := [], laidByText := true, laidKinds := [.data, .data], laidTests := true, laidLooks := .later }
def ShapeKnownCardSaid : Prop := Claim7.holds Tryz.pinned (.plain (OpenSpec.ofChange shapeKnownSpec)) shapeKnownCard

/-- THE TIED CARD OF 'sparrowlaw02.ShapeWhole'. -/
def shapeWholeCard : Claim7 := { stood := { row := shapeWholeRow, standIns := [], harness := (true, "9a88bf568b2fbf43936f83aceeb5bd07bdce84c1ad21e7c4c45026a3f3fdfa7f"), looks := false }, kinds := [], alts := [], laidByText := true, laidKinds := [.data, .data], laidTests := true, laidLooks := .later }
def ShapeWholeCardSaid : Prop := Claim7.holds Tryz.pinned (.plain (OpenSpec.ofChange shapeWholeSpec)) shapeWholeCard

/-- THE TIED CARD OF 'sparrowlaw02.ShapeAny'. -/
def shapeAnyCard : Claim7 := { stood := { row := shapeAnyRow, standIns := [], harness := (true, "9a88bf568b2fbf43936f83aceeb5bd07bdce84c1ad21e7c4c45026a3f3fdfa7f"), looks := false }, kinds := [], alts := [], laidByText := true, laidKinds := [.data, .data], laidTests := true, laidLooks := .later }
def ShapeAnyCardSaid : Prop := Claim7.holds Tryz.pinned (.plain (OpenSpec.ofChange shapeAnySpec)) shapeAnyCard

/-- THE TIED CARD OF 'sparrowlaw02.ShapeWaits'. -/
def shapeWaitsCard : Claim7 := { stood := { row := shapeWaitsRow, standIns := [], harness := (true, "9a88bf568b2fbf43936f83aceeb5bd07bdce84c1ad21e7c4c45026a3f3fdfa7f"), looks := false }, kinds := [], alts := [], laidByText := true, laidKinds := [.data, .data], laidTests := true, laidLooks := .later }
def ShapeWaitsCardSaid : Prop := Claim7.holds Tryz.pinned (.plain (OpenSpec.ofChange shapeWaitsSpec)) shapeWaitsCard

/-- THE TIED CARD OF 'sparrowlaw02.ShapeMore'. -/
def shapeMoreCard : Claim7 := { stood := { row := shapeMoreRow, standIns := [], harness := (true, "9a88bf568b2fbf43936f83aceeb5bd07bdce84c1ad21e7c4c45026a3f3fdfa7f"), looks := false }, kinds := [], alts := [], laidByText := true, laidKinds := [.data, .data], laidTests := true, laidLooks := .later }
def ShapeMoreCardSaid : Prop := Claim7.holds Tryz.pinned (.plain (OpenSpec.ofChange shapeMoreSpec)) shapeMoreCard

/-- THE TIED CARD OF 'sparrowlaw02.ShapeTurned'. -/
def shapeTurnedCard : Claim7 := { stood := { row := shapeTurnedRow, standIns := [], harness := (true, "9a88bf568b2fbf43936f83aceeb5bd07bdce84c1ad21e7c4c45026a3f3fdfa7f"), looks := false }, kinds := [], alts := [], laidByText := true, laidKinds := [.data, .data], laidTests := true, laidLooks := .later }
def ShapeTurnedCardSaid : Prop := Claim7.holds Tryz.pinned (.plain (OpenSpec.ofChange shapeTurnedSpec)) shapeTurnedCard

/-- THE SECOND FORM's CARD OF 'sparrowlaw02.ShapeForms'. -/
def shapeFormsUptoCard : Claim7 := { stood := { row := shapeFormsUptoRow, standIns := [], harness := (true, "9a88bf568b2fbf43936f83aceeb5bd07bdce84c1ad21e7c4c45026a3f3fdfa7f"), looks := false }, kinds := [], alts := [], laidByText := true, laidKinds := [.data, .data], laidTests := true, laidLooks := .later }
def ShapeFormsUptoCardSaid : Prop := Claim7.holds Tryz.pinned (.plain (OpenSpec.upto shapeFormsSpec)) shapeFormsUptoCard

/-- THE SECOND FORM's CARD OF 'sparrowlaw02.ShapeHands'. -/
def shapeHandsUptoCard : Claim7 := { stood := { row := shapeHandsUptoRow, standIns := [], harness := (true, "9a88bf568b2fbf43936f83aceeb5bd07bdce84c1ad21e7c4c45026a3f3fdfa7f"), looks := false }, kinds := [], alts := [], laidByText := true, laidKinds := [.data, .data], laidTests := true, laidLooks := .later }
def ShapeHandsUptoCardSaid : Prop := Claim7.holds Tryz.pinned (.plain (OpenSpec.upto shapeHandsSpec)) shapeHandsUptoCard

/-- THE SECOND FORM's CARD OF 'sparrowlaw02.ShapeSplits'. -/
def shapeSplitsUptoCard : Claim7 := { stood := { row := shapeSplitsUptoRow, standIns := [], harness := (true, "9a88bf568b2fbf43936f83aceeb5bd07bdce84c1ad21e7c4c45026a3f3fdfa7f"), looks := false }, kinds := [], alts := [], laidByText := true, laidKinds := [.data, .data], laidTests := true, laidLooks := .later }
def ShapeSplitsUptoCardSaid : Prop := Claim7.holds Tryz.pinned (.plain (OpenSpec.upto shapeSplitsSpec)) shapeSplitsUptoCard

/-- THE SECOND FORM's CARD OF 'sparrowlaw02.ShapeReads'. -/
def shapeReadsUptoCard : Claim7 := { stood := { row := shapeReadsUptoRow, standIns := [], harness := (true, "9a88bf568b2fbf43936f83aceeb5bd07bdce84c1ad21e7c4c45026a3f3fdfa7f"), looks := false }, kinds := [], alts := [], laidByText := true, laidKinds := [.data, .data], laidTests := true, laidLooks := .later }
def ShapeReadsUptoCardSaid : Prop := Claim7.holds Tryz.pinned (.plain (OpenSpec.upto shapeReadsSpec)) shapeReadsUptoCard

/-- THE SECOND FORM's CARD OF 'sparrowlaw02.ShapeIs'. -/
def shapeIsUptoCard : Claim7 := { stood := { row := shapeIsUptoRow, standIns := [], harness := (true, "9a88bf568b2fbf43936f83aceeb5bd07bdce84c1ad21e7c4c45026a3f3fdfa7f"), looks := false }, kinds := [], alts := [], laidByText := true, laidKinds := [.data, .data], laidTests := true, laidLooks := .later }
def ShapeIsUptoCardSaid : Prop := Claim7.holds Tryz.pinned (.plain (OpenSpec.upto shapeIsSpec)) shapeIsUptoCard

/-- THE SECOND FORM's CARD OF 'sparrowlaw02.ShapeWins'. -/
def shapeWinsUptoCard : Claim7 := { stood := { row := shapeWinsUptoRow, standIns := [], harness := (true, "9a88bf568b2fbf43936f83aceeb5bd07bdce84c1ad21e7c4c45026a3f3fdfa7f"), looks := false }, kinds := [], alts := [], laidByText := true, laidKinds := [.data, .data], laidTests := true, laidLooks := .later }
def ShapeWinsUptoCardSaid : Prop := Claim7.holds Tryz.pinned (.plain (OpenSpec.upto shapeWinsSpec)) shapeWinsUptoCard

/-- THE SECOND FORM's CARD OF 'sparrowlaw02.ShapeKnown'. -/
def shapeKnownUptoCard : Claim7 := { stood := { row := shapeKnownUptoRow, standIns := [], harness := (true, "9a88bf568b2fbf43936f83aceeb5bd07bdce84c1ad21e7c4c45026a3f3fdfa7f"), looks := false }, kinds := [], alts := [], laidByText := true, laidKinds := [.data, .data], laidTests := true, laidLooks := .later }
def ShapeKnownUptoCardSaid : Prop := Claim7.holds Tryz.pinned (.plain (OpenSpec.upto shapeKnownSpec)) shapeKnownUptoCard

/-- THE SECOND FORM's CARD OF 'sparrowlaw02.ShapeWhole'. -/
def shapeWholeUptoCard : Claim7 := { stood := { row := shapeWholeUptoRow, standIns := [], harness := (true, "9a88bf568b2fbf43936f83aceeb5bd07bdce84c1ad21e7c4c45026a3f3fdfa7f"), looks := false }, kinds := [], alts := [], laidByText := true, laidKinds := [.data, .data], laidTests := true, laidLooks := .later }
def ShapeWholeUptoCardSaid : Prop := Claim7.holds Tryz.pinned (.plain (OpenSpec.upto shapeWholeSpec)) shapeWholeUptoCard

/-- THE SECOND FORM's CARD OF 'sparrowlaw02.ShapeAny'. -/
def shapeAnyUptoCard : Claim7 := { stood := { row := shapeAnyUptoRow, standIns := [], harness := (true, "9a88bf568b2fbf43936f83aceeb5bd07bdce84c1ad21e7c4c45026a3f3fdfa7f"), looks := false }, kinds := [], alts := [], laidByText := true, laidKinds := [.data, .data], laidTests := true, laidLooks := .later }
def ShapeAnyUptoCardSaid : Prop := Claim7.holds Tryz.pinned (.plain (OpenSpec.upto shapeAnySpec)) shapeAnyUptoCard

/-- THE SECOND FORM's CARD OF 'sparrowlaw02.ShapeWaits'. -/
def shapeWaitsUptoCard : Claim7 := { stood := { row := shapeWaitsUptoRow, standIns := [], harness := (true, "9a88bf568b2fbf43936f83aceeb5bd07bdce84c1ad21e7c4c45026a3f3fdfa7f"), looks := false }, kinds := [], alts := [], laidByText := true, laidKinds := [.data, .data], laidTests := true, laidLooks := .later }
def ShapeWaitsUptoCardSaid : Prop := Claim7.holds Tryz.pinned (.plain (OpenSpec.upto shapeWaitsSpec)) shapeWaitsUptoCard

/-- THE SECOND FORM's CARD OF 'sparrowlaw02.ShapeMore'. -/
def shapeMoreUptoCard : Claim7 := { stood := { row := shapeMoreUptoRow, standIns := [], harness := (true, "9a88bf568b2fbf43936f83aceeb5bd07bdce84c1ad21e7c4c45026a3f3fdfa7f"), looks := false }, kinds := [], alts := [], laidByText := true, laidKinds := [.data, .data], laidTests := true, laidLooks := .later }
def ShapeMoreUptoCardSaid : Prop := Claim7.holds Tryz.pinned (.plain (OpenSpec.upto shapeMoreSpec)) shapeMoreUptoCard

/-- THE SECOND FORM's CARD OF 'sparrowlaw02.ShapeTurned'. -/
def shapeTurnedUptoCard : Claim7 := { stood := { row := shapeTurnedUptoRow, standIns := [], harness := (true, "9a88bf568b2fbf43936f83aceeb5bd07bdce84c1ad21e7c4c45026a3f3fdfa7f"), looks := false }, kinds := [], alts := [], laidByText := true, laidKinds := [.data, .data], laidTests := true, laidLooks := .later }
def ShapeTurnedUptoCardSaid : Prop := Claim7.holds Tryz.pinned (.plain (OpenSpec.upto shapeTurnedSpec)) shapeTurnedUptoCard
end Rows
end Go.Proofs.YtblbjdobhlgghaaGreatDoor
