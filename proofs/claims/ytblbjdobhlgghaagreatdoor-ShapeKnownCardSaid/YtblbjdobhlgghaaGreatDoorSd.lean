/-
  What is proved: nothing of the program. This text joins the known answers of Check, find and newGround.
-/
import Derived.Test.YtblbjdobhlgghaaGreatDoorSc
namespace Go.Proofs.YtblbjdobhlgghaaGreatDoor
open Go.RowKit

def hG : Value → List Value → AH → Option (Value × AH) := orH hFC (memoH mgL)
theorem hG_ok : CallOK Tryz.prog hG := orH_ok hFC_ok mgL_ok

end Go.Proofs.YtblbjdobhlgghaaGreatDoor
