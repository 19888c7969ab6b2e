/-
  What is proved: nothing of the program. This text joins the known answers.
-/
import Derived.Test.YtbdbijbfcdaghaaGreatDoorTc1
namespace Go.Proofs.YtbdbijbfcdaghaaGreatDoor
open Go.RowKit

def hC : Value → List Value → AH → Option (Value × AH) := orH hB (memoF tcL)
theorem hC_ok : CallOK Tryz.prog hC := orH_ok hB_ok tcL_ok

end Go.Proofs.YtbdbijbfcdaghaaGreatDoor
