/-
  What is proved: the answers of shape.newGround at the two sets of the examples.
-/
import Derived.Test.YtblbjdobhlgghaaGreatDoorSb
namespace Go.Proofs.YtblbjdobhlgghaaGreatDoor
open Go.RowKit

def hFC : Value → List Value → AH → Option (Value × AH) := orH (memoH mcL) (memoH mfL)
theorem hFC_ok : CallOK Tryz.prog hFC := orH_ok mcL_ok mfL_ok
def mg0 : ME := ⟨104, [(setV 4 3 4 3 0 4 4 (14) 3)], setH [9, 9, 9] [4, 13, 22], .agg #[.int .i64 (34), .int .i64 (0), .int .i64 (0), .int .i64 (0), .int .i64 (0), .int .i64 (0), .int .i64 (0), .int .i64 (0), .int .i64 (0), .int .i64 (0), .int .i64 (1), .int .i64 (1), .int .i64 (1), .int .i64 (1), .int .i64 (1), .int .i64 (1), .int .i64 (1), .int .i64 (1), .int .i64 (1), .int .i64 (2), .int .i64 (2), .int .i64 (2), .int .i64 (2), .int .i64 (2), .int .i64 (2), .int .i64 (2), .int .i64 (2), .int .i64 (2), .int .i64 (-1), .int .i64 (-1), .int .i64 (-1), .int .i64 (-1), .int .i64 (-2), .int .i64 (-2), .int .i64 (-2), .int .i64 (0), .int .i64 (1), .int .i64 (2), .int .i64 (3), .int .i64 (4), .int .i64 (5), .int .i64 (6), .int .i64 (7), .int .i64 (8), .int .i64 (0), .int .i64 (1), .int .i64 (2), .int .i64 (3), .int .i64 (4), .int .i64 (5), .int .i64 (6), .int .i64 (7), .int .i64 (8), .int .i64 (0), .int .i64 (1), .int .i64 (2), .int .i64 (3), .int .i64 (4), .int .i64 (5), .int .i64 (6), .int .i64 (7), .int .i64 (8), .int .i64 (0), .int .i64 (1), .int .i64 (2), .int .i64 (3), .int .i64 (0), .int .i64 (1), .int .i64 (2), .bool true, .bool true, .bool true, .bool true, .bool true, .bool true, .bool true, .bool false, .bool false, .bool true, .bool true, .bool true, .bool true, .bool true, .bool true, .bool true, .bool false, .bool false, .bool true, .bool true, .bool true, .bool true, .bool true, .bool true, .bool true, .bool false, .bool false, .bool false, .bool false, .bool false, .bool false, .bool false, .bool false, .bool false]⟩
def mg1 : ME := ⟨104, [(setV 3 1 0 1 0 4 1 (2) 1)], setH [3] [1], .agg #[.int .i64 (4), .int .i64 (0), .int .i64 (0), .int .i64 (0), .int .i64 (-2), .int .i64 (0), .int .i64 (0), .int .i64 (0), .int .i64 (0), .int .i64 (0), .int .i64 (0), .int .i64 (0), .int .i64 (0), .int .i64 (0), .int .i64 (0), .int .i64 (0), .int .i64 (0), .int .i64 (0), .int .i64 (0), .int .i64 (0), .int .i64 (0), .int .i64 (0), .int .i64 (0), .int .i64 (0), .int .i64 (0), .int .i64 (0), .int .i64 (0), .int .i64 (0), .int .i64 (0), .int .i64 (0), .int .i64 (0), .int .i64 (0), .int .i64 (0), .int .i64 (0), .int .i64 (0), .int .i64 (0), .int .i64 (1), .int .i64 (2), .int .i64 (0), .int .i64 (0), .int .i64 (0), .int .i64 (0), .int .i64 (0), .int .i64 (0), .int .i64 (0), .int .i64 (0), .int .i64 (0), .int .i64 (0), .int .i64 (0), .int .i64 (0), .int .i64 (0), .int .i64 (0), .int .i64 (0), .int .i64 (0), .int .i64 (0), .int .i64 (0), .int .i64 (0), .int .i64 (0), .int .i64 (0), .int .i64 (0), .int .i64 (0), .int .i64 (0), .int .i64 (0), .int .i64 (0), .int .i64 (0), .int .i64 (0), .int .i64 (0), .int .i64 (0), .int .i64 (0), .bool true, .bool false, .bool false, .bool false, .bool false, .bool false, .bool false, .bool false, .bool false, .bool false, .bool false, .bool false, .bool false, .bool false, .bool false, .bool false, .bool false, .bool false, .bool false, .bool false, .bool false, .bool false, .bool false, .bool false, .bool false, .bool false, .bool false, .bool false, .bool false, .bool false, .bool false, .bool false, .bool false, .bool false]⟩
def mgL : List ME := [mg0, mg1]
theorem mg0_ok : meB (evCall (tabT Tryz.prog) (tabF Tryz.prog) 300 kpT hFC 9) mg0 = true := by kernel_rfl
theorem mg1_ok : meB (evCall (tabT Tryz.prog) (tabF Tryz.prog) 300 kpT hFC 9) mg1 = true := by kernel_rfl
theorem mgL_ok : CallOK Tryz.prog (memoH mgL) := memoH_ok (evCall_sound (tabT_ok _) (tabF_ok _) mixed 300 kpT hFC_ok 9) (by
  intro e he
  simp only [mgL, List.mem_cons, List.not_mem_nil, or_false] at he
  rcases he with rfl | rfl
  · exact meB_ok mg0_ok
  · exact meB_ok mg1_ok)

end Go.Proofs.YtblbjdobhlgghaaGreatDoor
