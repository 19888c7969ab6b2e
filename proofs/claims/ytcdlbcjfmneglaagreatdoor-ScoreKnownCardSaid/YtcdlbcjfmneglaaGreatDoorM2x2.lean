/-
  What is proved: what functions answer for examples.
-/
import Derived.Test.YtcdlbcjfmneglaaGreatDoorM1j
namespace Go.Proofs.YtcdlbcjfmneglaaGreatDoor
open Go.RowKit

def m2x2e0 : MF := ⟨71, [.int .i64 (10), (Value.slice none 0 0)], ⟨0, []⟩, (Value.tuple #[.bool false, .int .i64 (0)]), []⟩
theorem m2x2e0_ok : mfB (evCall (tabT Tryz.prog) (tabF Tryz.prog) 300 kpT hm1 60) m2x2e0 = true := by kernel_rfl
def m2x2L : List MF := [m2x2e0]
theorem m2x2L_ok : CallOK Tryz.prog (memoF m2x2L) := memoF_ok (evCall_sound (tabT_ok _) (tabF_ok _) mixed 300 kpT hm1_ok 60) (by
  intro e he
  simp only [m2x2L, List.mem_cons, List.not_mem_nil, or_false] at he
  rcases he with rfl
  · exact mfB_ok m2x2e0_ok)

end Go.Proofs.YtcdlbcjfmneglaaGreatDoor
