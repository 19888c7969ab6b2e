/-
  What is proved: what functions of package dist answer for examples of the small set.
-/
import Derived.Test.YtbdbijbfcdaghaaGreatDoorTa
namespace Go.Proofs.YtbdbijbfcdaghaaGreatDoor
open Go.RowKit

def tb5x0 : MF := ⟨8, [.agg #[.int .i64 (3), .slice (some ⟨0, 0, none⟩) 1 1, .int .i64 (0), .int .i64 (1), .int .i64 (0), .int .i64 (4), .int .i64 (1), .int .i64 (2), .slice (some ⟨1, 0, none⟩) 1 1], .slice (some ⟨2, 0, none⟩) 1 3, .agg #[.slice (some ⟨3, 0, none⟩) 4 1, .slice none 0 0], .slice none 0 0], ⟨5, [(4, .cells true [.int .i64 (0), .int .i64 (1), .int .i64 (2), .int .i64 (3)]), (3, .cells true [.int .i64 (1), .int .i64 (1), .int .i64 (1), .int .i64 (1)]), (2, .cells true [.int .i64 (3), .slice (some ⟨4, 0, none⟩) 4 1, .bool false]), (1, .cells true [.int .i64 (1)]), (0, .cells true [.int .i64 (3)])]⟩, (Value.tuple #[(Value.slice (some ⟨5, 0, none⟩) 4 1), .int .i64 (0)]), [(5, (ABlk.cells false [.int .i64 (1), .int .i64 (1), .int .i64 (1), .int .i64 (2)]))]⟩
def tb5x1 : MF := ⟨33, [.agg #[.int .i64 (3), .slice (some ⟨0, 0, none⟩) 1 1, .int .i64 (0), .int .i64 (1), .int .i64 (0), .int .i64 (4), .int .i64 (1), .int .i64 (2), .slice (some ⟨1, 0, none⟩) 1 1], .slice (some ⟨2, 0, none⟩) 1 3, .agg #[.slice (some ⟨3, 0, none⟩) 4 1, .slice none 0 0], .slice none 0 0, .int .i64 (1), .bool false], ⟨4, [(3, .cells true [.int .i64 (2), .int .i64 (1), .int .i64 (1), .int .i64 (0)]), (2, .cells true [.int .i64 (1), .slice none 0 0, .bool false]), (1, .cells true [.int .i64 (1)]), (0, .cells true [.int .i64 (3)])]⟩, (Value.tuple #[(Value.slice none 0 0), .int .i64 (0)]), []⟩
theorem tb5x0_ok : mfB (evCall (tabT Tryz.prog) (tabF Tryz.prog) 300 kpT (memoF taL) 60) tb5x0 = true := by kernel_rfl
theorem tb5x1_ok : mfB (evCall (tabT Tryz.prog) (tabF Tryz.prog) 300 kpT (memoF taL) 60) tb5x1 = true := by kernel_rfl
def tb5xL : List MF := [tb5x0, tb5x1]
theorem tb5xL_ok : CallOK Tryz.prog (memoF tb5xL) := memoF_ok (evCall_sound (tabT_ok _) (tabF_ok _) mixed 300 kpT taL_ok 60) (by
  intro e he
  simp only [tb5xL, List.mem_cons, List.not_mem_nil, or_false] at he
  rcases he with rfl | rfl
  · exact mfB_ok tb5x0_ok
  · exact mfB_ok tb5x1_ok)

end Go.Proofs.YtbdbijbfcdaghaaGreatDoor
