/-
  What is proved: what Best answers for an example of the small set.
-/
import Derived.Test.YtbdbijbfcdaghaaGreatDoorTc2
namespace Go.Proofs.YtbdbijbfcdaghaaGreatDoor
open Go.RowKit

def te0 : MF := ⟨19, [.agg #[.int .i64 (3), .slice (some ⟨0, 0, none⟩) 1 1, .int .i64 (0), .int .i64 (1), .int .i64 (0), .int .i64 (4), .int .i64 (1), .int .i64 (2), .slice (some ⟨1, 0, none⟩) 1 1], .slice (some ⟨2, 0, none⟩) 1 3, .agg #[.slice (some ⟨3, 0, none⟩) 4 1, .slice none 0 0], .slice none 0 0], ⟨4, [(3, .cells true [.int .i64 (2), .int .i64 (2), .int .i64 (0), .int .i64 (1)]), (2, .cells true [.int .i64 (1), .slice none 0 0, .bool false]), (1, .cells true [.int .i64 (1)]), (0, .cells true [.int .i64 (3)])]⟩, (Value.tuple #[.int .i64 (3), .int .i64 (0)]), []⟩
theorem te0_ok : mfB (evCall (tabT Tryz.prog) (tabF Tryz.prog) 300 kpT hC 60) te0 = true := by kernel_rfl
def teL : List MF := [te0]
theorem teL_ok : CallOK Tryz.prog (memoF teL) := memoF_ok (evCall_sound (tabT_ok _) (tabF_ok _) mixed 300 kpT hC_ok 60) (by
  intro e he
  simp only [teL, List.mem_cons, List.not_mem_nil, or_false] at he
  rcases he with rfl
  · exact mfB_ok te0_ok)

def hZ : Value → List Value → AH → Option (Value × AH) := orH hC (memoF teL)
theorem hZ_ok : CallOK Tryz.prog hZ := orH_ok hC_ok teL_ok

end Go.Proofs.YtbdbijbfcdaghaaGreatDoor
