/-
  What is proved: what Choices, Path and Left answer for examples of the small set.
-/
import Derived.Test.YtbdbijbfcdaghaaGreatDoorTc0
namespace Go.Proofs.YtbdbijbfcdaghaaGreatDoor
open Go.RowKit

def tc0 : MF := ⟨12, [.agg #[.int .i64 (3), .slice (some ⟨0, 0, none⟩) 1 1, .int .i64 (0), .int .i64 (1), .int .i64 (0), .int .i64 (4), .int .i64 (1), .int .i64 (2), .slice (some ⟨1, 0, none⟩) 1 1], .slice (some ⟨2, 0, none⟩) 1 3, .agg #[.slice (some ⟨3, 0, none⟩) 4 1, .slice none 0 0], .slice none 0 0], ⟨4, [(3, .cells true [.int .i64 (2), .int .i64 (2), .int .i64 (0), .int .i64 (1)]), (2, .cells true [.int .i64 (1), .slice none 0 0, .bool false]), (1, .cells true [.int .i64 (1)]), (0, .cells true [.int .i64 (3)])]⟩, (Value.tuple #[(Value.slice (some ⟨4, 0, none⟩) 3 4), .int .i64 (0)]), [(4, (ABlk.cells false [.int .i64 (0), .int .i64 (2), (Value.slice (some ⟨5, 0, none⟩) 4 1), .int .i64 (11), .int .i64 (1), .int .i64 (2), (Value.slice (some ⟨6, 0, none⟩) 4 1), .int .i64 (11), .int .i64 (3), .int .i64 (1), (Value.slice (some ⟨7, 0, none⟩) 2 1), .int .i64 (4)])), (5, (ABlk.cells false [.int .i64 (0), .int .i64 (1), .int .i64 (2), .int .i64 (3)])), (6, (ABlk.cells false [.int .i64 (0), .int .i64 (1), .int .i64 (2), .int .i64 (3)])), (7, (ABlk.cells false [.int .i64 (0), .int .i64 (1)]))]⟩
def tc1 : MF := ⟨10, [.agg #[.int .i64 (3), .slice (some ⟨0, 0, none⟩) 1 1, .int .i64 (0), .int .i64 (1), .int .i64 (0), .int .i64 (4), .int .i64 (1), .int .i64 (2), .slice (some ⟨1, 0, none⟩) 1 1], .slice (some ⟨2, 0, none⟩) 1 3, .agg #[.slice (some ⟨3, 0, none⟩) 4 1, .slice none 0 0], .slice none 0 0], ⟨4, [(3, .cells true [.int .i64 (1), .int .i64 (1), .int .i64 (1), .int .i64 (1)]), (2, .cells true [.int .i64 (1), .slice none 0 0, .bool false]), (1, .cells true [.int .i64 (1)]), (0, .cells true [.int .i64 (3)])]⟩, (Value.tuple #[(Value.slice (some ⟨4, 0, none⟩) 1 2), .int .i64 (0)]), [(4, (ABlk.cells false [.int .i64 (-1), .int .i64 (3)]))]⟩
def tc2 : MF := ⟨10, [.agg #[.int .i64 (3), .slice (some ⟨0, 0, none⟩) 1 1, .int .i64 (0), .int .i64 (1), .int .i64 (0), .int .i64 (4), .int .i64 (1), .int .i64 (2), .slice (some ⟨1, 0, none⟩) 1 1], .slice (some ⟨2, 0, none⟩) 1 3, .agg #[.slice (some ⟨3, 0, none⟩) 4 1, .slice none 0 0], .slice none 0 0], ⟨4, [(3, .cells true [.int .i64 (2), .int .i64 (2), .int .i64 (0), .int .i64 (1)]), (2, .cells true [.int .i64 (1), .slice none 0 0, .bool false]), (1, .cells true [.int .i64 (1)]), (0, .cells true [.int .i64 (3)])]⟩, (Value.tuple #[(Value.slice (some ⟨4, 0, none⟩) 1 2), .int .i64 (0)]), [(4, (ABlk.cells false [.int .i64 (3), .int .i64 (1)]))]⟩
def tc3 : MF := ⟨32, [.agg #[.int .i64 (3), .slice (some ⟨0, 0, none⟩) 1 1, .int .i64 (0), .int .i64 (1), .int .i64 (0), .int .i64 (4), .int .i64 (1), .int .i64 (2), .slice (some ⟨1, 0, none⟩) 1 1], .agg #[.slice (some ⟨2, 0, none⟩) 4 1, .slice none 0 0], .slice none 0 0, .slice (some ⟨3, 0, none⟩) 5 1], ⟨4, [(3, .cells true [.int .i64 (0), .int .i64 (1), .int .i64 (3), .int .i64 (3), .int .i64 (9)]), (2, .cells true [.int .i64 (2), .int .i64 (2), .int .i64 (0), .int .i64 (1)]), (1, .cells true [.int .i64 (1)]), (0, .cells true [.int .i64 (3)])]⟩, .int .i64 (7), []⟩
theorem tc0_ok : mfB (evCall (tabT Tryz.prog) (tabF Tryz.prog) 300 kpT hB 60) tc0 = true := by kernel_rfl
theorem tc1_ok : mfB (evCall (tabT Tryz.prog) (tabF Tryz.prog) 300 kpT hB 60) tc1 = true := by kernel_rfl
theorem tc2_ok : mfB (evCall (tabT Tryz.prog) (tabF Tryz.prog) 300 kpT hB 60) tc2 = true := by kernel_rfl
theorem tc3_ok : mfB (evCall (tabT Tryz.prog) (tabF Tryz.prog) 300 kpT hB 60) tc3 = true := by kernel_rfl
def tcL : List MF := [tc0, tc1, tc2, tc3]
theorem tcL_ok : CallOK Tryz.prog (memoF tcL) := memoF_ok (evCall_sound (tabT_ok _) (tabF_ok _) mixed 300 kpT hB_ok 60) (by
  intro e he
  simp only [tcL, List.mem_cons, List.not_mem_nil, or_false] at he
  rcases he with rfl | rfl | rfl | rfl
  · exact mfB_ok tc0_ok
  · exact mfB_ok tc1_ok
  · exact mfB_ok tc2_ok
  · exact mfB_ok tc3_ok)

end Go.Proofs.YtbdbijbfcdaghaaGreatDoor
