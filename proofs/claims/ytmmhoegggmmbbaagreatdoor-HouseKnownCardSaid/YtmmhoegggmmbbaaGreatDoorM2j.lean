/-
  What is proved: nothing of the program. This text joins the known answers.
-/
import Derived.Test.YtmmhoegggmmbbaaGreatDoorM2x0
import Derived.Test.YtmmhoegggmmbbaaGreatDoorM2x1
import Derived.Test.YtmmhoegggmmbbaaGreatDoorM2x2
import Derived.Test.YtmmhoegggmmbbaaGreatDoorM2x3
namespace Go.Proofs.YtmmhoegggmmbbaaGreatDoor
open Go.RowKit

noncomputable def hm2 : Value → List Value → AH → Option (Value × AH) := orH (orH (orH (orH (hm1) (memoF m2x0L)) (memoF m2x1L)) (memoF m2x2L)) (memoF m2x3L)
theorem hm2_ok : CallOK Tryz.prog hm2 := orH_ok (orH_ok (orH_ok (orH_ok (hm1_ok) m2x0L_ok) m2x1L_ok) m2x2L_ok) m2x3L_ok

end Go.Proofs.YtmmhoegggmmbbaaGreatDoor
