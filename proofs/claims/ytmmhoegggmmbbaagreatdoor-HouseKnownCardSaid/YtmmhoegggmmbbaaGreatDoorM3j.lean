/-
  What is proved: nothing of the program. This text joins the known answers.
-/
import Derived.Test.YtmmhoegggmmbbaaGreatDoorM3x0
import Derived.Test.YtmmhoegggmmbbaaGreatDoorM3x1
import Derived.Test.YtmmhoegggmmbbaaGreatDoorM3x2
import Derived.Test.YtmmhoegggmmbbaaGreatDoorM3x3
namespace Go.Proofs.YtmmhoegggmmbbaaGreatDoor
open Go.RowKit

noncomputable def hm3 : Value → List Value → AH → Option (Value × AH) := orH (orH (orH (orH (hm2) (memoF m3x0L)) (memoF m3x1L)) (memoF m3x2L)) (memoF m3x3L)
theorem hm3_ok : CallOK Tryz.prog hm3 := orH_ok (orH_ok (orH_ok (orH_ok (hm2_ok) m3x0L_ok) m3x1L_ok) m3x2L_ok) m3x3L_ok

end Go.Proofs.YtmmhoegggmmbbaaGreatDoor
