/-
  What is proved: the abstract run of the law ends, and its answer is true.
-/
import Derived.Test.YtcdlbcjfmneglaaGreatDoorM7j
namespace Go.Proofs.YtcdlbcjfmneglaaGreatDoor
open Go.RowKit

theorem run_ev : said true (evFn (tabT Tryz.prog) (evCall (tabT Tryz.prog) (tabF Tryz.prog) 300 kpT hm10 60) 300 kpT 3 Tryz.f3 [] ⟨0, []⟩) = true := by kernel_rfl

end Go.Proofs.YtcdlbcjfmneglaaGreatDoor
