/-
  What is proved: nothing of the program. This text joins the known answers.
-/
import Derived.Test.YtmmhoegggmmbbaaGreatDoorM4x0
namespace Go.Proofs.YtmmhoegggmmbbaaGreatDoor
open Go.RowKit

noncomputable def hm4 : Value → List Value → AH → Option (Value × AH) := orH (hm3) (memoF m4x0L)
theorem hm4_ok : CallOK Tryz.prog hm4 := orH_ok (hm3_ok) m4x0L_ok

end Go.Proofs.YtmmhoegggmmbbaaGreatDoor
