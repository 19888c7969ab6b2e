/-
  What is proved: what functions of package dist answer for examples of the small set.
-/
import Derived.Test.YtbdbijbfcdaghaaGreatDoorTa
namespace Go.Proofs.YtbdbijbfcdaghaaGreatDoor
open Go.RowKit

def tb3x0 : MF := ⟨8, [.agg #[.int .i64 (3), .slice (some ⟨0, 0, none⟩) 1 1, .int .i64 (0), .int .i64 (1), .int .i64 (0), .int .i64 (4), .int .i64 (1), .int .i64 (2), .slice (some ⟨1, 0, none⟩) 1 1], .slice (some ⟨2, 0, none⟩) 1 3, .agg #[.slice (some ⟨3, 0, none⟩) 4 1, .slice none 0 0], .slice none 0 0], ⟨4, [(3, .cells true [.int .i64 (2), .int .i64 (2), .int .i64 (0), .int .i64 (1)]), (2, .cells true [.int .i64 (1), .slice none 0 0, .bool false]), (1, .cells true [.int .i64 (1)]), (0, .cells true [.int .i64 (3)])]⟩, (Value.tuple #[(Value.slice (some ⟨4, 0, none⟩) 4 1), .int .i64 (0)]), [(4, (ABlk.cells false [.int .i64 (2), .int .i64 (3), .int .i64 (0), .int .i64 (0)]))]⟩
def tb3x1 : MF := ⟨11, [.agg #[.int .i64 (3), .slice (some ⟨0, 0, none⟩) 1 1, .int .i64 (0), .int .i64 (1), .int .i64 (0), .int .i64 (4), .int .i64 (1), .int .i64 (2), .slice (some ⟨1, 0, none⟩) 1 1], .slice (some ⟨2, 0, none⟩) 1 3, .agg #[.slice (some ⟨3, 0, none⟩) 4 1, .slice none 0 0], .slice none 0 0], ⟨4, [(3, .cells true [.int .i64 (2), .int .i64 (2), .int .i64 (0), .int .i64 (1)]), (2, .cells true [.int .i64 (1), .slice none 0 0, .bool false]), (1, .cells true [.int .i64 (1)]), (0, .cells true [.int .i64 (3)])]⟩, (Value.tuple #[(Value.slice none 0 0), .int .i64 (10)]), []⟩
theorem tb3x0_ok : mfB (evCall (tabT Tryz.prog) (tabF Tryz.prog) 300 kpT (memoF taL) 60) tb3x0 = true := by kernel_rfl
theorem tb3x1_ok : mfB (evCall (tabT Tryz.prog) (tabF Tryz.prog) 300 kpT (memoF taL) 60) tb3x1 = true := by kernel_rfl
def tb3xL : List MF := [tb3x0, tb3x1]
theorem tb3xL_ok : CallOK Tryz.prog (memoF tb3xL) := memoF_ok (evCall_sound (tabT_ok _) (tabF_ok _) mixed 300 kpT taL_ok 60) (by
  intro e he
  simp only [tb3xL, List.mem_cons, List.not_mem_nil, or_false] at he
  rcases he with rfl | rfl
  · exact mfB_ok tb3x0_ok
  · exact mfB_ok tb3x1_ok)

end Go.Proofs.YtbdbijbfcdaghaaGreatDoor
