/-
  What is proved: two closed facts of the row: which functions of the library its road comes to, and that it follows them.
-/
import Derived.Test.YtbofnpohamajpaaDoorRows
import Derived.WalkKit
import Derived.ProofKit
import Derived.OpenShut
import Derived.LaidMore
import Derived.Stop.Joined
import Derived.SevenTiedAt
import Derived.Lay
namespace Go.Proofs.YtbofnpohamajpaaDoor.scoreScales
open Go.ChangeShapes Go.WideShapes Go.ChangeAt Go.WideMaps Go.WideElems Go.RowKit
set_option linter.unusedVariables false

theorem j1 : ((Rows.scoreScalesRow.inPlace == Tryd.prog.inPlace 3) && (Rows.scoreScalesRow.unfollowed == Tryd.prog.unfollowed 3)) = true := by kernel_rfl

end Go.Proofs.YtbofnpohamajpaaDoor.scoreScales
