/-
  What is proved: nothing of the program. This text joins the known answers for the examples.
-/
import Derived.Test.YtblbjdobhlgghaaGreatDoorFb
import Derived.Test.YtblbjdobhlgghaaGreatDoorFe0
import Derived.Test.YtblbjdobhlgghaaGreatDoorFe1
import Derived.Test.YtblbjdobhlgghaaGreatDoorFe2
import Derived.Test.YtblbjdobhlgghaaGreatDoorFi
namespace Go.Proofs.YtblbjdobhlgghaaGreatDoor
open Go.RowKit

def hK : Value → List Value → AH → Option (Value × AH) := orH hG (orH (memoF fbxL) (orH (memoF fe0xL) (orH (memoF fe1xL) (orH (memoF fe2xL) (memoF fixL)))))
theorem hK_ok : CallOK Tryz.prog hK := orH_ok hG_ok (orH_ok fbxL_ok (orH_ok fe0xL_ok (orH_ok fe1xL_ok (orH_ok fe2xL_ok fixL_ok))))

end Go.Proofs.YtblbjdobhlgghaaGreatDoor
