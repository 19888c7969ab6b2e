/-
  What is proved: nothing of the program. This text joins the known answers.
-/
import Derived.Test.YtbdbijbfcdaghaaGreatDoorTb0
import Derived.Test.YtbdbijbfcdaghaaGreatDoorTb1
import Derived.Test.YtbdbijbfcdaghaaGreatDoorTb2
import Derived.Test.YtbdbijbfcdaghaaGreatDoorTb3
import Derived.Test.YtbdbijbfcdaghaaGreatDoorTb4
import Derived.Test.YtbdbijbfcdaghaaGreatDoorTb5
import Derived.Test.YtbdbijbfcdaghaaGreatDoorTb6
import Derived.Test.YtbdbijbfcdaghaaGreatDoorTb7
import Derived.Test.YtbdbijbfcdaghaaGreatDoorTb8
import Derived.Test.YtbdbijbfcdaghaaGreatDoorTb9
import Derived.Test.YtbdbijbfcdaghaaGreatDoorTb10
import Derived.Test.YtbdbijbfcdaghaaGreatDoorTb11
namespace Go.Proofs.YtbdbijbfcdaghaaGreatDoor
open Go.RowKit

def hB : Value → List Value → AH → Option (Value × AH) := (orH (orH (orH (orH (orH (orH (orH (orH (orH (orH (orH (orH (memoF taL) (memoF tb0xL)) (memoF tb1xL)) (memoF tb2xL)) (memoF tb3xL)) (memoF tb4xL)) (memoF tb5xL)) (memoF tb6xL)) (memoF tb7xL)) (memoF tb8xL)) (memoF tb9xL)) (memoF tb10xL)) (memoF tb11xL))
theorem hB_ok : CallOK Tryz.prog hB := (orH_ok (orH_ok (orH_ok (orH_ok (orH_ok (orH_ok (orH_ok (orH_ok (orH_ok (orH_ok (orH_ok (orH_ok taL_ok tb0xL_ok) tb1xL_ok) tb2xL_ok) tb3xL_ok) tb4xL_ok) tb5xL_ok) tb6xL_ok) tb7xL_ok) tb8xL_ok) tb9xL_ok) tb10xL_ok) tb11xL_ok)

end Go.Proofs.YtbdbijbfcdaghaaGreatDoor
