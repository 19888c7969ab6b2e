/-
  What is proved: two closed facts of the row: that its road recurses or not, and the variables that it names.
-/
import Derived.Test.YtmpddcgjpdnilaaGreatDoorRows
import Derived.WalkKit
import Derived.ProofKit
import Derived.OpenShut
import Derived.LaidMore
import Derived.Stop.Joined
import Derived.SevenTiedAt
import Derived.Lay
namespace Go.Proofs.YtmpddcgjpdnilaaGreatDoor.eveningKnown
open Go.ChangeShapes Go.WideShapes Go.ChangeAt Go.WideMaps Go.WideElems Go.RowKit
set_option linter.unusedVariables false

theorem j2 : ((Rows.eveningKnownRow.recurses == Tryz.prog.recurses 3) && (Rows.eveningKnownRow.named == Tryz.prog.varsNamed 3)) = true := by kernel_rfl

end Go.Proofs.YtmpddcgjpdnilaaGreatDoor.eveningKnown
