/-
  What is proved: what functions answer for examples; this text joins the known answers.
-/
import Derived.Test.YtmpddcgjpdnilaaGreatDoorM5x0
import Derived.Test.YtmpddcgjpdnilaaGreatDoorM5x1
import Derived.Test.YtmpddcgjpdnilaaGreatDoorM5x2
import Derived.Test.YtmpddcgjpdnilaaGreatDoorM5x3
import Derived.Test.YtmpddcgjpdnilaaGreatDoorM5x4
import Derived.Test.YtmpddcgjpdnilaaGreatDoorM5x5
import Derived.Test.YtmpddcgjpdnilaaGreatDoorM5x6
import Derived.Test.YtmpddcgjpdnilaaGreatDoorM5x7
import Derived.Test.YtmpddcgjpdnilaaGreatDoorM5x8
import Derived.Test.YtmpddcgjpdnilaaGreatDoorM5x9
import Derived.Test.YtmpddcgjpdnilaaGreatDoorM5x10
import Derived.Test.YtmpddcgjpdnilaaGreatDoorM5x11
namespace Go.Proofs.YtmpddcgjpdnilaaGreatDoor
open Go.RowKit

noncomputable def hm5 : Value → List Value → AH → Option (Value × AH) := orH (orH (orH (orH (orH (orH (orH (orH (orH (orH (orH (orH (hm4) (memoF m5x0L)) (memoF m5x1L)) (memoF m5x2L)) (memoF m5x3L)) (memoF m5x4L)) (memoF m5x5L)) (memoF m5x6L)) (memoF m5x7L)) (memoF m5x8L)) (memoF m5x9L)) (memoF m5x10L)) (memoF m5x11L)
theorem hm5_ok : CallOK Tryz.prog hm5 := orH_ok (orH_ok (orH_ok (orH_ok (orH_ok (orH_ok (orH_ok (orH_ok (orH_ok (orH_ok (orH_ok (orH_ok (hm4_ok) m5x0L_ok) m5x1L_ok) m5x2L_ok) m5x3L_ok) m5x4L_ok) m5x5L_ok) m5x6L_ok) m5x7L_ok) m5x8L_ok) m5x9L_ok) m5x10L_ok) m5x11L_ok

end Go.Proofs.YtmpddcgjpdnilaaGreatDoor
