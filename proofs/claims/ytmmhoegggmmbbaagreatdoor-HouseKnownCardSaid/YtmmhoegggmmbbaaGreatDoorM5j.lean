/-
  What is proved: nothing of the program. This text joins the known answers.
-/
import Derived.Test.YtmmhoegggmmbbaaGreatDoorM5x0
import Derived.Test.YtmmhoegggmmbbaaGreatDoorM5x1
import Derived.Test.YtmmhoegggmmbbaaGreatDoorM5x2
import Derived.Test.YtmmhoegggmmbbaaGreatDoorM5x3
import Derived.Test.YtmmhoegggmmbbaaGreatDoorM5x4
namespace Go.Proofs.YtmmhoegggmmbbaaGreatDoor
open Go.RowKit

noncomputable def hm5 : Value → List Value → AH → Option (Value × AH) := orH (orH (orH (orH (orH (hm4) (memoF m5x0L)) (memoF m5x1L)) (memoF m5x2L)) (memoF m5x3L)) (memoF m5x4L)
theorem hm5_ok : CallOK Tryz.prog hm5 := orH_ok (orH_ok (orH_ok (orH_ok (orH_ok (hm4_ok) m5x0L_ok) m5x1L_ok) m5x2L_ok) m5x3L_ok) m5x4L_ok

end Go.Proofs.YtmmhoegggmmbbaaGreatDoor
