/-
  What is proved: what Readings, Waits and Wins answer for the examples of the small set.
-/
import Derived.Test.YtblbjdobhlgghaaGreatDoorSd
import Derived.Test.YtblbjdobhlgghaaGreatDoorFa
namespace Go.Proofs.YtblbjdobhlgghaaGreatDoor
open Go.RowKit

def fbx0 : MF := ⟨42, [.agg #[.int .i64 (3), .slice (some ⟨0, 0, none⟩) 1 1, .int .i64 (0), .int .i64 (1), .int .i64 (0), .int .i64 (4), .int .i64 (1), .int .i64 (2), .slice (some ⟨1, 0, none⟩) 1 1], .slice (some ⟨2, 0, none⟩) 1 3, .agg #[.slice (some ⟨3, 0, none⟩) 4 1, .slice none 0 0], .int .i64 (2)], ⟨4, [(3, .cells true [.int .i64 (1), .int .i64 (1), .int .i64 (3), .int .i64 (0)]), (2, .cells true [.int .i64 (1), .slice none 0 0, .bool false]), (1, .cells true [.int .i64 (1)]), (0, .cells true [.int .i64 (3)])]⟩, (Value.slice (some ⟨4, 0, none⟩) 2 3), [(4, (ABlk.cells false [.int .i64 (0), (Value.slice (some ⟨5, 0, none⟩) 2 3), .int .i64 (0), .int .i64 (0), (Value.slice (some ⟨6, 0, none⟩) 2 3), .int .i64 (1)])), (5, (ABlk.cells false [.int .i64 (1), .int .i64 (0), .bool false, .int .i64 (4), .int .i64 (2), .bool false])), (6, (ABlk.cells false [.int .i64 (1), .int .i64 (0), .bool false, .int .i64 (4), .int .i64 (2), .bool false]))]⟩
def fbx1 : MF := ⟨42, [.agg #[.int .i64 (3), .slice (some ⟨0, 0, none⟩) 1 1, .int .i64 (0), .int .i64 (1), .int .i64 (0), .int .i64 (4), .int .i64 (1), .int .i64 (2), .slice (some ⟨1, 0, none⟩) 1 1], .slice (some ⟨2, 0, none⟩) 1 3, .agg #[.slice (some ⟨3, 0, none⟩) 4 1, .slice none 0 0], .int .i64 (0)], ⟨4, [(3, .cells true [.int .i64 (1), .int .i64 (1), .int .i64 (3), .int .i64 (0)]), (2, .cells true [.int .i64 (1), .slice none 0 0, .bool false]), (1, .cells true [.int .i64 (1)]), (0, .cells true [.int .i64 (3)])]⟩, (Value.slice (some ⟨4, 0, none⟩) 1 3), [(4, (ABlk.cells false [.int .i64 (0), (Value.slice (some ⟨5, 0, none⟩) 2 3), .int .i64 (0)])), (5, (ABlk.cells false [.int .i64 (1), .int .i64 (0), .bool false, .int .i64 (4), .int .i64 (2), .bool false]))]⟩
def fbx2 : MF := ⟨42, [.agg #[.int .i64 (3), .slice (some ⟨0, 0, none⟩) 1 1, .int .i64 (0), .int .i64 (1), .int .i64 (0), .int .i64 (4), .int .i64 (1), .int .i64 (2), .slice (some ⟨1, 0, none⟩) 1 1], .slice (some ⟨2, 0, none⟩) 1 3, .agg #[.slice (some ⟨3, 0, none⟩) 4 1, .slice none 0 0], .int .i64 (3)], ⟨4, [(3, .cells true [.int .i64 (1), .int .i64 (1), .int .i64 (3), .int .i64 (0)]), (2, .cells true [.int .i64 (1), .slice none 0 0, .bool false]), (1, .cells true [.int .i64 (1)]), (0, .cells true [.int .i64 (3)])]⟩, (Value.slice none 0 0), []⟩
def fbx3 : MF := ⟨50, [.agg #[.int .i64 (3), .slice (some ⟨0, 0, none⟩) 1 1, .int .i64 (0), .int .i64 (1), .int .i64 (0), .int .i64 (4), .int .i64 (1), .int .i64 (2), .slice (some ⟨1, 0, none⟩) 1 1], .slice (some ⟨2, 0, none⟩) 1 3, .agg #[.slice (some ⟨3, 0, none⟩) 4 1, .slice none 0 0]], ⟨4, [(3, .cells true [.int .i64 (1), .int .i64 (1), .int .i64 (1), .int .i64 (1)]), (2, .cells true [.int .i64 (1), .slice none 0 0, .bool false]), (1, .cells true [.int .i64 (1)]), (0, .cells true [.int .i64 (3)])]⟩, (Value.slice (some ⟨4, 0, none⟩) 1 1), [(4, (ABlk.cells false [.int .i64 (3)]))]⟩
def fbx4 : MF := ⟨50, [.agg #[.int .i64 (3), .slice (some ⟨0, 0, none⟩) 1 1, .int .i64 (0), .int .i64 (1), .int .i64 (0), .int .i64 (4), .int .i64 (1), .int .i64 (2), .slice (some ⟨1, 0, none⟩) 1 1], .slice (some ⟨2, 0, none⟩) 1 3, .agg #[.slice (some ⟨3, 0, none⟩) 4 1, .slice none 0 0]], ⟨4, [(3, .cells true [.int .i64 (3), .int .i64 (1), .int .i64 (0), .int .i64 (0)]), (2, .cells true [.int .i64 (1), .slice none 0 0, .bool false]), (1, .cells true [.int .i64 (1)]), (0, .cells true [.int .i64 (3)])]⟩, (Value.slice (some ⟨4, 0, none⟩) 2 1), [(4, (ABlk.cells false [.int .i64 (1), .int .i64 (2)]))]⟩
def fbx5 : MF := ⟨50, [.agg #[.int .i64 (3), .slice (some ⟨0, 0, none⟩) 1 1, .int .i64 (0), .int .i64 (1), .int .i64 (0), .int .i64 (4), .int .i64 (1), .int .i64 (2), .slice (some ⟨1, 0, none⟩) 1 1], .slice (some ⟨2, 0, none⟩) 1 3, .agg #[.slice (some ⟨3, 0, none⟩) 4 1, .slice none 0 0]], ⟨4, [(3, .cells true [.int .i64 (0), .int .i64 (0), .int .i64 (2), .int .i64 (2)]), (2, .cells true [.int .i64 (1), .slice none 0 0, .bool false]), (1, .cells true [.int .i64 (1)]), (0, .cells true [.int .i64 (3)])]⟩, (Value.slice (some ⟨4, 0, none⟩) 2 1), [(4, (ABlk.cells false [.int .i64 (2), .int .i64 (3)]))]⟩
def fbx6 : MF := ⟨50, [.agg #[.int .i64 (3), .slice (some ⟨0, 0, none⟩) 1 1, .int .i64 (0), .int .i64 (1), .int .i64 (0), .int .i64 (4), .int .i64 (1), .int .i64 (2), .slice (some ⟨1, 0, none⟩) 1 1], .slice (some ⟨2, 0, none⟩) 1 3, .agg #[.slice (some ⟨3, 0, none⟩) 4 1, .slice none 0 0]], ⟨4, [(3, .cells true [.int .i64 (1), .int .i64 (1), .int .i64 (2), .int .i64 (0)]), (2, .cells true [.int .i64 (1), .slice none 0 0, .bool false]), (1, .cells true [.int .i64 (1)]), (0, .cells true [.int .i64 (3)])]⟩, (Value.slice (some ⟨4, 0, none⟩) 1 1), [(4, (ABlk.cells false [.int .i64 (2)]))]⟩
def fbx7 : MF := ⟨50, [.agg #[.int .i64 (3), .slice (some ⟨0, 0, none⟩) 1 1, .int .i64 (0), .int .i64 (1), .int .i64 (0), .int .i64 (4), .int .i64 (1), .int .i64 (2), .slice (some ⟨1, 0, none⟩) 1 1], .slice (some ⟨2, 0, none⟩) 1 3, .agg #[.slice (some ⟨3, 0, none⟩) 4 1, .slice none 0 0]], ⟨5, [(4, .cells true [.int .i64 (0), .int .i64 (1), .int .i64 (2), .int .i64 (3)]), (3, .cells true [.int .i64 (1), .int .i64 (1), .int .i64 (1), .int .i64 (1)]), (2, .cells true [.int .i64 (3), .slice (some ⟨4, 0, none⟩) 4 1, .bool false]), (1, .cells true [.int .i64 (1)]), (0, .cells true [.int .i64 (3)])]⟩, (Value.slice (some ⟨5, 0, none⟩) 4 1), [(5, (ABlk.cells false [.int .i64 (0), .int .i64 (1), .int .i64 (2), .int .i64 (3)]))]⟩
def fbx8 : MF := ⟨50, [.agg #[.int .i64 (3), .slice (some ⟨0, 0, none⟩) 1 1, .int .i64 (0), .int .i64 (1), .int .i64 (0), .int .i64 (4), .int .i64 (1), .int .i64 (2), .slice (some ⟨1, 0, none⟩) 1 1], .slice (some ⟨2, 0, none⟩) 1 3, .agg #[.slice (some ⟨3, 0, none⟩) 4 1, .slice none 0 0]], ⟨5, [(4, .cells true [.int .i64 (0), .int .i64 (1), .int .i64 (2), .int .i64 (3)]), (3, .cells true [.int .i64 (2), .int .i64 (1), .int .i64 (1), .int .i64 (0)]), (2, .cells true [.int .i64 (3), .slice (some ⟨4, 0, none⟩) 4 1, .bool false]), (1, .cells true [.int .i64 (1)]), (0, .cells true [.int .i64 (3)])]⟩, (Value.slice (some ⟨5, 0, none⟩) 1 1), [(5, (ABlk.cells false [.int .i64 (3)]))]⟩
def fbx9 : MF := ⟨50, [.agg #[.int .i64 (3), .slice (some ⟨0, 0, none⟩) 1 1, .int .i64 (0), .int .i64 (1), .int .i64 (0), .int .i64 (4), .int .i64 (1), .int .i64 (2), .slice (some ⟨1, 0, none⟩) 1 1], .slice (some ⟨2, 0, none⟩) 1 3, .agg #[.slice (some ⟨3, 0, none⟩) 4 1, .slice (some ⟨4, 0, none⟩) 1 3]], ⟨5, [(4, .cells true [.int .i64 (3), .int .i64 (2), .bool false]), (3, .cells true [.int .i64 (0), .int .i64 (0), .int .i64 (1), .int .i64 (0)]), (2, .cells true [.int .i64 (1), .slice none 0 0, .bool false]), (1, .cells true [.int .i64 (1)]), (0, .cells true [.int .i64 (3)])]⟩, (Value.slice none 0 0), []⟩
def fbx10 : MF := ⟨48, [.agg #[.int .i64 (3), .slice (some ⟨0, 0, none⟩) 1 1, .int .i64 (0), .int .i64 (1), .int .i64 (0), .int .i64 (4), .int .i64 (1), .int .i64 (2), .slice (some ⟨1, 0, none⟩) 1 1], .slice (some ⟨2, 0, none⟩) 1 3, .agg #[.slice (some ⟨3, 0, none⟩) 4 1, .slice (some ⟨4, 0, none⟩) 1 3]], ⟨5, [(4, .cells true [.int .i64 (1), .int .i64 (0), .bool true]), (3, .cells true [.int .i64 (0), .int .i64 (0), .int .i64 (0), .int .i64 (2)]), (2, .cells true [.int .i64 (1), .slice none 0 0, .bool false]), (1, .cells true [.int .i64 (1)]), (0, .cells true [.int .i64 (3)])]⟩, .bool true, []⟩
theorem fbx0_ok : mfB (evCall (tabT Tryz.prog) (tabF Tryz.prog) 300 kpT hG 60) fbx0 = true := by kernel_rfl
theorem fbx1_ok : mfB (evCall (tabT Tryz.prog) (tabF Tryz.prog) 300 kpT hG 60) fbx1 = true := by kernel_rfl
theorem fbx2_ok : mfB (evCall (tabT Tryz.prog) (tabF Tryz.prog) 300 kpT hG 60) fbx2 = true := by kernel_rfl
theorem fbx3_ok : mfB (evCall (tabT Tryz.prog) (tabF Tryz.prog) 300 kpT hG 60) fbx3 = true := by kernel_rfl
theorem fbx4_ok : mfB (evCall (tabT Tryz.prog) (tabF Tryz.prog) 300 kpT hG 60) fbx4 = true := by kernel_rfl
theorem fbx5_ok : mfB (evCall (tabT Tryz.prog) (tabF Tryz.prog) 300 kpT hG 60) fbx5 = true := by kernel_rfl
theorem fbx6_ok : mfB (evCall (tabT Tryz.prog) (tabF Tryz.prog) 300 kpT hG 60) fbx6 = true := by kernel_rfl
theorem fbx7_ok : mfB (evCall (tabT Tryz.prog) (tabF Tryz.prog) 300 kpT hG 60) fbx7 = true := by kernel_rfl
theorem fbx8_ok : mfB (evCall (tabT Tryz.prog) (tabF Tryz.prog) 300 kpT hG 60) fbx8 = true := by kernel_rfl
theorem fbx9_ok : mfB (evCall (tabT Tryz.prog) (tabF Tryz.prog) 300 kpT hG 60) fbx9 = true := by kernel_rfl
theorem fbx10_ok : mfB (evCall (tabT Tryz.prog) (tabF Tryz.prog) 300 kpT hG 60) fbx10 = true := by kernel_rfl
def fbxL : List MF := [fbx0, fbx1, fbx2, fbx3, fbx4, fbx5, fbx6, fbx7, fbx8, fbx9, fbx10]
theorem fbxL_ok : CallOK Tryz.prog (memoF fbxL) := memoF_ok (evCall_sound (tabT_ok _) (tabF_ok _) mixed 300 kpT hG_ok 60) (by
  intro e he
  simp only [fbxL, List.mem_cons, List.not_mem_nil, or_false] at he
  rcases he with rfl | rfl | rfl | rfl | rfl | rfl | rfl | rfl | rfl | rfl | rfl
  · exact mfB_ok fbx0_ok
  · exact mfB_ok fbx1_ok
  · exact mfB_ok fbx2_ok
  · exact mfB_ok fbx3_ok
  · exact mfB_ok fbx4_ok
  · exact mfB_ok fbx5_ok
  · exact mfB_ok fbx6_ok
  · exact mfB_ok fbx7_ok
  · exact mfB_ok fbx8_ok
  · exact mfB_ok fbx9_ok
  · exact mfB_ok fbx10_ok)

end Go.Proofs.YtblbjdobhlgghaaGreatDoor
