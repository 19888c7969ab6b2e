/-
  What is proved: two closed facts of the row: which functions of the library its road comes to, and that it follows them.
-/
import Derived.Test.YtmpddcgjpdnilaaGreatDoorRows
import Derived.WalkKit
import Derived.ProofKit
import Derived.OpenShut
import Derived.LaidMore
import Derived.Stop.Joined
import Derived.SevenTiedAt
import Derived.Lay
namespace Go.Proofs.YtmpddcgjpdnilaaGreatDoor.eveningKnown
open Go.ChangeShapes Go.WideShapes Go.ChangeAt Go.WideMaps Go.WideElems Go.RowKit
set_option linter.unusedVariables false

theorem j1 : ((Rows.eveningKnownRow.inPlace == Tryz.prog.inPlace 3) && (Rows.eveningKnownRow.unfollowed == Tryz.prog.unfollowed 3)) = true := by kernel_rfl

end Go.Proofs.YtmpddcgjpdnilaaGreatDoor.eveningKnown
