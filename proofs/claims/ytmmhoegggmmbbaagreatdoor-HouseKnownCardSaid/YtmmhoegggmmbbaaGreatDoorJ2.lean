/-
  What is proved: two closed facts of the row: that its road recurses, and the variables that it names.
-/
import Derived.Test.YtmmhoegggmmbbaaGreatDoorRows
import Derived.WalkKit
import Derived.ProofKit
import Derived.OpenShut
import Derived.LaidMore
import Derived.Stop.Joined
import Derived.SevenTiedAt
import Derived.Lay
namespace Go.Proofs.YtmmhoegggmmbbaaGreatDoor.houseKnown
open Go.ChangeShapes Go.WideShapes Go.ChangeAt Go.WideMaps Go.WideElems Go.RowKit
set_option linter.unusedVariables false

theorem j2 : ((Rows.houseKnownRow.recurses == Tryz.prog.recurses 3) && (Rows.houseKnownRow.named == Tryz.prog.varsNamed 3)) = true := by kernel_rfl

end Go.Proofs.YtmmhoegggmmbbaaGreatDoor.houseKnown
