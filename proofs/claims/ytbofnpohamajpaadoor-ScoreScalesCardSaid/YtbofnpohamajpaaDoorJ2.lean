/-
  What is proved: two closed facts of the row: that its road recurses or not, and the variables that it names.
-/
import Derived.Test.YtbofnpohamajpaaDoorRows
import Derived.WalkKit
import Derived.ProofKit
import Derived.OpenShut
import Derived.LaidMore
import Derived.Stop.Joined
import Derived.SevenTiedAt
import Derived.Lay
namespace Go.Proofs.YtbofnpohamajpaaDoor.scoreScales
open Go.ChangeShapes Go.WideShapes Go.ChangeAt Go.WideMaps Go.WideElems Go.RowKit
set_option linter.unusedVariables false

theorem j2 : ((Rows.scoreScalesRow.recurses == Tryd.prog.recurses 3) && (Rows.scoreScalesRow.named == Tryd.prog.varsNamed 3)) = true := by kernel_rfl

end Go.Proofs.YtbofnpohamajpaaDoor.scoreScales
