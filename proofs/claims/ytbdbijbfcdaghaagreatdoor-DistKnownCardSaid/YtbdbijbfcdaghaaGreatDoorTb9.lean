/-
  What is proved: what functions of package dist answer for examples of the small set.
-/
import Derived.Test.YtbdbijbfcdaghaaGreatDoorTa
namespace Go.Proofs.YtbdbijbfcdaghaaGreatDoor
open Go.RowKit

def tb9x0 : MF := ⟨11, [.agg #[.int .i64 (3), .slice (some ⟨0, 0, none⟩) 1 1, .int .i64 (0), .int .i64 (1), .int .i64 (0), .int .i64 (4), .int .i64 (1), .int .i64 (2), .slice (some ⟨1, 0, none⟩) 1 1], .slice (some ⟨2, 0, none⟩) 1 3, .agg #[.slice (some ⟨3, 0, none⟩) 4 1, .slice none 0 0], .slice none 0 0], ⟨4, [(3, .cells true [.int .i64 (1), .int .i64 (1), .int .i64 (1), .int .i64 (1)]), (2, .cells true [.int .i64 (1), .slice none 0 0, .bool false]), (1, .cells true [.int .i64 (1)]), (0, .cells true [.int .i64 (3)])]⟩, (Value.tuple #[(Value.slice (some ⟨4, 0, none⟩) 1 1), .int .i64 (0)]), [(4, (ABlk.cells false [.int .i64 (3)]))]⟩
theorem tb9x0_ok : mfB (evCall (tabT Tryz.prog) (tabF Tryz.prog) 300 kpT (memoF taL) 60) tb9x0 = true := by kernel_rfl
def tb9xL : List MF := [tb9x0]
theorem tb9xL_ok : CallOK Tryz.prog (memoF tb9xL) := memoF_ok (evCall_sound (tabT_ok _) (tabF_ok _) mixed 300 kpT taL_ok 60) (by
  intro e he
  simp only [tb9xL, List.mem_cons, List.not_mem_nil, or_false] at he
  rcases he with rfl
  · exact mfB_ok tb9x0_ok)

end Go.Proofs.YtbdbijbfcdaghaaGreatDoor
