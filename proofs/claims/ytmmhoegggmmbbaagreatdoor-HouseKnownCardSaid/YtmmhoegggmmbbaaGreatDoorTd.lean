/-
  What is proved: the abstract run of the law ends, and its answer is true.
-/
import Derived.Test.YtmmhoegggmmbbaaGreatDoorM6j
namespace Go.Proofs.YtmmhoegggmmbbaaGreatDoor
open Go.RowKit

theorem run_ev : said true (evFn (tabT Tryz.prog) (evCall (tabT Tryz.prog) (tabF Tryz.prog) 300 kpT hm6 60) 300 kpT 3 Tryz.f3 [] ⟨0, []⟩) = true := by kernel_rfl

end Go.Proofs.YtmmhoegggmmbbaaGreatDoor
