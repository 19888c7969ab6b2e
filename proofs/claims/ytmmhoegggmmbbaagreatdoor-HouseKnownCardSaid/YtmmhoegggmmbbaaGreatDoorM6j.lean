/-
  What is proved: nothing of the program. This text joins the known answers.
-/
import Derived.Test.YtmmhoegggmmbbaaGreatDoorM6x0
namespace Go.Proofs.YtmmhoegggmmbbaaGreatDoor
open Go.RowKit

noncomputable def hm6 : Value → List Value → AH → Option (Value × AH) := orH (hm5) (memoF m6x0L)
theorem hm6_ok : CallOK Tryz.prog hm6 := orH_ok (hm5_ok) m6x0L_ok

end Go.Proofs.YtmmhoegggmmbbaaGreatDoor
