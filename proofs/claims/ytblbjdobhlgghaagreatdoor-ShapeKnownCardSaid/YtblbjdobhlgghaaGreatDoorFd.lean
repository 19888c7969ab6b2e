/-
  What is proved: nothing of the program. This text joins the known answers of splits.
-/
import Derived.Test.YtblbjdobhlgghaaGreatDoorFc0
import Derived.Test.YtblbjdobhlgghaaGreatDoorFc1
import Derived.Test.YtblbjdobhlgghaaGreatDoorFc2
import Derived.Test.YtblbjdobhlgghaaGreatDoorFc3
import Derived.Test.YtblbjdobhlgghaaGreatDoorFc4
namespace Go.Proofs.YtblbjdobhlgghaaGreatDoor
open Go.RowKit

def hS : Value → List Value → AH → Option (Value × AH) := orH hG (orH (memoF fc0xL) (orH (memoF fc1xL) (orH (memoF fc2xL) (orH (memoF fc3xL) (memoF fc4xL)))))
theorem hS_ok : CallOK Tryz.prog hS := orH_ok hG_ok (orH_ok fc0xL_ok (orH_ok fc1xL_ok (orH_ok fc2xL_ok (orH_ok fc3xL_ok fc4xL_ok))))

end Go.Proofs.YtblbjdobhlgghaaGreatDoor
