/-
  What is proved: what functions answer for examples; this text joins the known answers.
-/
import Derived.Test.YtcdlbcjfmneglaaGreatDoorM2x0
import Derived.Test.YtcdlbcjfmneglaaGreatDoorM2x1
import Derived.Test.YtcdlbcjfmneglaaGreatDoorM2x2
namespace Go.Proofs.YtcdlbcjfmneglaaGreatDoor
open Go.RowKit

noncomputable def hm2 : Value → List Value → AH → Option (Value × AH) := orH (orH (orH (hm1) (memoF m2x0L)) (memoF m2x1L)) (memoF m2x2L)
theorem hm2_ok : CallOK Tryz.prog hm2 := orH_ok (orH_ok (orH_ok (hm1_ok) m2x0L_ok) m2x1L_ok) m2x2L_ok

end Go.Proofs.YtcdlbcjfmneglaaGreatDoor
