/-
  What is proved: the abstract run of the law ends, and its answer is true.
-/
import Derived.Test.YtmpddcgjpdnilaaGreatDoorM6j
namespace Go.Proofs.YtmpddcgjpdnilaaGreatDoor
open Go.RowKit

theorem run_ev : said true (evFn (tabT Tryz.prog) (evCall (tabT Tryz.prog) (tabF Tryz.prog) 300 kpT hm7 60) 300 kpT 3 Tryz.f3 [] ⟨0, []⟩) = true := by kernel_rfl

end Go.Proofs.YtmpddcgjpdnilaaGreatDoor
