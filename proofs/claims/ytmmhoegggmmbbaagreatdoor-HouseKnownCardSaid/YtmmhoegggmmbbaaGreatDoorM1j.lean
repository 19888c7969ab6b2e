/-
  What is proved: nothing of the program. This text joins the known answers.
-/
import Derived.Test.YtmmhoegggmmbbaaGreatDoorM1x0
namespace Go.Proofs.YtmmhoegggmmbbaaGreatDoor
open Go.RowKit

noncomputable def hm1 : Value → List Value → AH → Option (Value × AH) := memoF m1x0L
theorem hm1_ok : CallOK Tryz.prog hm1 := m1x0L_ok

end Go.Proofs.YtmmhoegggmmbbaaGreatDoor
