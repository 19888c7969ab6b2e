/-
  What is proved: the abstract run of the law ShapeKnown ends, and its answer is true.
-/
import Derived.Test.YtblbjdobhlgghaaGreatDoorFh
namespace Go.Proofs.YtblbjdobhlgghaaGreatDoor
open Go.RowKit

theorem run_ev : said true (evFn (tabT Tryz.prog) (evCall (tabT Tryz.prog) (tabF Tryz.prog) 300 kpT hL 30) 300 kpT 9 Tryz.f9 [] ⟨0, []⟩) = true := by kernel_rfl

end Go.Proofs.YtblbjdobhlgghaaGreatDoor
