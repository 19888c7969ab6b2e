/-
  What is proved: what CheckHand, Total and CheckForm answer for the examples.
-/
import Derived.Test.YtblbjdobhlgghaaGreatDoorSd
import Derived.Test.YtblbjdobhlgghaaGreatDoorFa
namespace Go.Proofs.YtblbjdobhlgghaaGreatDoor
open Go.RowKit

def fix0 : MF := ⟨26, [.agg #[.int .i64 (3), .slice (some ⟨0, 0, none⟩) 1 1, .int .i64 (0), .int .i64 (1), .int .i64 (0), .int .i64 (4), .int .i64 (1), .int .i64 (2), .slice (some ⟨1, 0, none⟩) 1 1], .agg #[.slice (some ⟨2, 0, none⟩) 4 1, .slice none 0 0]], ⟨3, [(2, .cells true [.int .i64 (1), .int .i64 (1), .int .i64 (1), .int .i64 (1)]), (1, .cells true [.int .i64 (1)]), (0, .cells true [.int .i64 (3)])]⟩, .int .i64 (0), []⟩
def fix1 : MF := ⟨26, [.agg #[.int .i64 (3), .slice (some ⟨0, 0, none⟩) 1 1, .int .i64 (0), .int .i64 (1), .int .i64 (0), .int .i64 (4), .int .i64 (1), .int .i64 (2), .slice (some ⟨1, 0, none⟩) 1 1], .agg #[.slice (some ⟨2, 0, none⟩) 4 1, .slice none 0 0]], ⟨3, [(2, .cells true [.int .i64 (1), .int .i64 (1), .int .i64 (2), .int .i64 (1)]), (1, .cells true [.int .i64 (1)]), (0, .cells true [.int .i64 (3)])]⟩, .int .i64 (0), []⟩
def fix2 : MF := ⟨26, [.agg #[.int .i64 (3), .slice (some ⟨0, 0, none⟩) 1 1, .int .i64 (0), .int .i64 (1), .int .i64 (0), .int .i64 (4), .int .i64 (1), .int .i64 (2), .slice (some ⟨1, 0, none⟩) 1 1], .agg #[.slice (some ⟨2, 0, none⟩) 4 1, .slice none 0 0]], ⟨3, [(2, .cells true [.int .i64 (1), .int .i64 (1), .int .i64 (0), .int .i64 (0)]), (1, .cells true [.int .i64 (1)]), (0, .cells true [.int .i64 (3)])]⟩, .int .i64 (6), []⟩
def fix3 : MF := ⟨26, [.agg #[.int .i64 (3), .slice (some ⟨0, 0, none⟩) 1 1, .int .i64 (0), .int .i64 (1), .int .i64 (0), .int .i64 (4), .int .i64 (1), .int .i64 (2), .slice (some ⟨1, 0, none⟩) 1 1], .agg #[.slice (some ⟨2, 0, none⟩) 4 1, .slice none 0 0]], ⟨3, [(2, .cells true [.int .i64 (2), .int .i64 (2), .int .i64 (2), .int .i64 (0)]), (1, .cells true [.int .i64 (1)]), (0, .cells true [.int .i64 (3)])]⟩, .int .i64 (5), []⟩
def fix4 : MF := ⟨26, [.agg #[.int .i64 (3), .slice (some ⟨0, 0, none⟩) 1 1, .int .i64 (0), .int .i64 (1), .int .i64 (0), .int .i64 (4), .int .i64 (1), .int .i64 (2), .slice (some ⟨1, 0, none⟩) 1 1], .agg #[.slice (some ⟨2, 0, none⟩) 4 1, .slice none 0 0]], ⟨3, [(2, .cells true [.int .i64 (5), .int .i64 (0), .int .i64 (0), .int .i64 (0)]), (1, .cells true [.int .i64 (1)]), (0, .cells true [.int .i64 (3)])]⟩, .int .i64 (2), []⟩
def fix5 : MF := ⟨26, [.agg #[.int .i64 (3), .slice (some ⟨0, 0, none⟩) 1 1, .int .i64 (0), .int .i64 (1), .int .i64 (0), .int .i64 (4), .int .i64 (1), .int .i64 (2), .slice (some ⟨1, 0, none⟩) 1 1], .agg #[.slice (some ⟨2, 0, none⟩) 4 1, .slice (some ⟨3, 0, none⟩) 1 3]], ⟨4, [(3, .cells true [.int .i64 (2), .int .i64 (3), .bool true]), (2, .cells true [.int .i64 (0), .int .i64 (0), .int .i64 (2), .int .i64 (0)]), (1, .cells true [.int .i64 (1)]), (0, .cells true [.int .i64 (3)])]⟩, .int .i64 (0), []⟩
def fix6 : MF := ⟨26, [.agg #[.int .i64 (3), .slice (some ⟨0, 0, none⟩) 1 1, .int .i64 (0), .int .i64 (1), .int .i64 (0), .int .i64 (4), .int .i64 (1), .int .i64 (2), .slice (some ⟨1, 0, none⟩) 1 1], .agg #[.slice (some ⟨2, 0, none⟩) 4 1, .slice (some ⟨3, 0, none⟩) 1 3]], ⟨4, [(3, .cells true [.int .i64 (2), .int .i64 (3), .bool false]), (2, .cells true [.int .i64 (0), .int .i64 (0), .int .i64 (2), .int .i64 (0)]), (1, .cells true [.int .i64 (1)]), (0, .cells true [.int .i64 (3)])]⟩, .int .i64 (3), []⟩
def fix7 : MF := ⟨26, [.agg #[.int .i64 (3), .slice (some ⟨0, 0, none⟩) 1 1, .int .i64 (0), .int .i64 (1), .int .i64 (0), .int .i64 (4), .int .i64 (1), .int .i64 (2), .slice (some ⟨1, 0, none⟩) 1 1], .agg #[.slice (some ⟨2, 0, none⟩) 4 1, .slice (some ⟨3, 0, none⟩) 1 3]], ⟨4, [(3, .cells true [.int .i64 (3), .int .i64 (3), .bool false]), (2, .cells true [.int .i64 (0), .int .i64 (0), .int .i64 (2), .int .i64 (0)]), (1, .cells true [.int .i64 (1)]), (0, .cells true [.int .i64 (3)])]⟩, .int .i64 (0), []⟩
def fix8 : MF := ⟨26, [.agg #[.int .i64 (3), .slice (some ⟨0, 0, none⟩) 1 1, .int .i64 (0), .int .i64 (1), .int .i64 (0), .int .i64 (4), .int .i64 (1), .int .i64 (2), .slice (some ⟨1, 0, none⟩) 1 1], .agg #[.slice (some ⟨2, 0, none⟩) 4 1, .slice (some ⟨3, 0, none⟩) 1 3]], ⟨4, [(3, .cells true [.int .i64 (1), .int .i64 (1), .bool true]), (2, .cells true [.int .i64 (0), .int .i64 (2), .int .i64 (0), .int .i64 (0)]), (1, .cells true [.int .i64 (1)]), (0, .cells true [.int .i64 (3)])]⟩, .int .i64 (3), []⟩
def fix9 : MF := ⟨26, [.agg #[.int .i64 (3), .slice (some ⟨0, 0, none⟩) 1 1, .int .i64 (0), .int .i64 (1), .int .i64 (0), .int .i64 (4), .int .i64 (1), .int .i64 (2), .slice (some ⟨1, 0, none⟩) 1 1], .agg #[.slice (some ⟨2, 0, none⟩) 4 1, .slice (some ⟨3, 0, none⟩) 1 3]], ⟨4, [(3, .cells true [.int .i64 (2), .int .i64 (1), .bool true]), (2, .cells true [.int .i64 (0), .int .i64 (2), .int .i64 (0), .int .i64 (0)]), (1, .cells true [.int .i64 (1)]), (0, .cells true [.int .i64 (3)])]⟩, .int .i64 (8), []⟩
def fix10 : MF := ⟨31, [.agg #[.int .i64 (3), .slice (some ⟨0, 0, none⟩) 1 1, .int .i64 (0), .int .i64 (1), .int .i64 (0), .int .i64 (4), .int .i64 (1), .int .i64 (2), .slice (some ⟨1, 0, none⟩) 1 1], .agg #[.slice (some ⟨2, 0, none⟩) 4 1, .slice (some ⟨3, 0, none⟩) 1 3]], ⟨4, [(3, .cells true [.int .i64 (3), .int .i64 (3), .bool false]), (2, .cells true [.int .i64 (0), .int .i64 (0), .int .i64 (2), .int .i64 (0)]), (1, .cells true [.int .i64 (1)]), (0, .cells true [.int .i64 (3)])]⟩, (Value.slice (some ⟨4, 0, none⟩) 4 1), [(4, (ABlk.cells false [.int .i64 (0), .int .i64 (0), .int .i64 (2), .int .i64 (4)]))]⟩
def fix11 : MF := ⟨18, [.agg #[.int .i64 (3), .slice (some ⟨0, 0, none⟩) 1 1, .int .i64 (0), .int .i64 (1), .int .i64 (0), .int .i64 (4), .int .i64 (1), .int .i64 (2), .slice (some ⟨1, 0, none⟩) 1 1], .agg #[.int .i64 (3), .slice (some ⟨2, 0, none⟩) 3 1, .bool false]], ⟨3, [(2, .cells true [.int .i64 (0), .int .i64 (1), .int .i64 (3)]), (1, .cells true [.int .i64 (1)]), (0, .cells true [.int .i64 (3)])]⟩, .int .i64 (3), []⟩
def fix12 : MF := ⟨18, [.agg #[.int .i64 (3), .slice (some ⟨0, 0, none⟩) 1 1, .int .i64 (0), .int .i64 (1), .int .i64 (0), .int .i64 (4), .int .i64 (1), .int .i64 (2), .slice (some ⟨1, 0, none⟩) 1 1], .agg #[.int .i64 (3), .slice (some ⟨2, 0, none⟩) 4 1, .bool false]], ⟨3, [(2, .cells true [.int .i64 (0), .int .i64 (1), .int .i64 (3), .int .i64 (2)]), (1, .cells true [.int .i64 (1)]), (0, .cells true [.int .i64 (3)])]⟩, .int .i64 (11), []⟩
def fix13 : MF := ⟨18, [.agg #[.int .i64 (3), .slice (some ⟨0, 0, none⟩) 1 1, .int .i64 (0), .int .i64 (1), .int .i64 (0), .int .i64 (4), .int .i64 (1), .int .i64 (2), .slice (some ⟨1, 0, none⟩) 1 1], .agg #[.int .i64 (3), .slice (some ⟨2, 0, none⟩) 4 1, .bool false]], ⟨3, [(2, .cells true [.int .i64 (0), .int .i64 (1), .int .i64 (2), .int .i64 (3)]), (1, .cells true [.int .i64 (1)]), (0, .cells true [.int .i64 (3)])]⟩, .int .i64 (0), []⟩
def fix14 : MF := ⟨18, [.agg #[.int .i64 (3), .slice (some ⟨0, 0, none⟩) 1 1, .int .i64 (0), .int .i64 (1), .int .i64 (0), .int .i64 (4), .int .i64 (1), .int .i64 (2), .slice (some ⟨1, 0, none⟩) 1 1], .agg #[.int .i64 (3), .slice (some ⟨2, 0, none⟩) 4 1, .bool false]], ⟨3, [(2, .cells true [.int .i64 (0), .int .i64 (1), .int .i64 (2), .int .i64 (4)]), (1, .cells true [.int .i64 (1)]), (0, .cells true [.int .i64 (3)])]⟩, .int .i64 (2), []⟩
def fix15 : MF := ⟨18, [.agg #[.int .i64 (3), .slice (some ⟨0, 0, none⟩) 1 1, .int .i64 (0), .int .i64 (1), .int .i64 (0), .int .i64 (4), .int .i64 (1), .int .i64 (2), .slice (some ⟨1, 0, none⟩) 1 1], .agg #[.int .i64 (6), .slice (some ⟨2, 0, none⟩) 5 1, .bool false]], ⟨3, [(2, .cells true [.int .i64 (2), .int .i64 (2), .int .i64 (2), .int .i64 (2), .int .i64 (2)]), (1, .cells true [.int .i64 (1)]), (0, .cells true [.int .i64 (3)])]⟩, .int .i64 (8), []⟩
def fix16 : MF := ⟨18, [.agg #[.int .i64 (3), .slice (some ⟨0, 0, none⟩) 1 1, .int .i64 (0), .int .i64 (1), .int .i64 (0), .int .i64 (4), .int .i64 (1), .int .i64 (2), .slice (some ⟨1, 0, none⟩) 1 1], .agg #[.int .i64 (6), .slice (some ⟨2, 0, none⟩) 5 1, .bool false]], ⟨3, [(2, .cells true [.int .i64 (2), .int .i64 (2), .int .i64 (2), .int .i64 (2), .int .i64 (1)]), (1, .cells true [.int .i64 (1)]), (0, .cells true [.int .i64 (3)])]⟩, .int .i64 (11), []⟩
def fix17 : MF := ⟨18, [.agg #[.int .i64 (4), .slice (some ⟨0, 0, none⟩) 3 1, .int .i64 (4), .int .i64 (3), .int .i64 (0), .int .i64 (4), .int .i64 (4), .int .i64 (14), .slice (some ⟨1, 0, none⟩) 3 1], .agg #[.int .i64 (1), .slice none 0 0, .bool true]], ⟨2, [(1, .cells true [.int .i64 (4), .int .i64 (13), .int .i64 (22)]), (0, .cells true [.int .i64 (9), .int .i64 (9), .int .i64 (9)])]⟩, .int .i64 (3), []⟩
def fix18 : MF := ⟨18, [.agg #[.int .i64 (3), .slice (some ⟨0, 0, none⟩) 1 1, .int .i64 (0), .int .i64 (1), .int .i64 (0), .int .i64 (4), .int .i64 (1), .int .i64 (2), .slice (some ⟨1, 0, none⟩) 1 1], .agg #[.int .i64 (5), .slice none 0 0, .bool false]], ⟨2, [(1, .cells true [.int .i64 (1)]), (0, .cells true [.int .i64 (3)])]⟩, .int .i64 (3), []⟩
def fix19 : MF := ⟨18, [.agg #[.int .i64 (4), .slice (some ⟨0, 0, none⟩) 3 1, .int .i64 (4), .int .i64 (3), .int .i64 (0), .int .i64 (4), .int .i64 (4), .int .i64 (14), .slice (some ⟨1, 0, none⟩) 3 1], .agg #[.int .i64 (2), .slice none 0 0, .bool false]], ⟨2, [(1, .cells true [.int .i64 (4), .int .i64 (13), .int .i64 (22)]), (0, .cells true [.int .i64 (9), .int .i64 (9), .int .i64 (9)])]⟩, .int .i64 (0), []⟩
def fix20 : MF := ⟨18, [.agg #[.int .i64 (3), .slice (some ⟨0, 0, none⟩) 1 1, .int .i64 (0), .int .i64 (1), .int .i64 (0), .int .i64 (4), .int .i64 (1), .int .i64 (2), .slice (some ⟨1, 0, none⟩) 1 1], .agg #[.int .i64 (2), .slice none 0 0, .bool false]], ⟨2, [(1, .cells true [.int .i64 (1)]), (0, .cells true [.int .i64 (3)])]⟩, .int .i64 (3), []⟩
theorem fix0_ok : mfB (evCall (tabT Tryz.prog) (tabF Tryz.prog) 300 kpT hG 60) fix0 = true := by kernel_rfl
theorem fix1_ok : mfB (evCall (tabT Tryz.prog) (tabF Tryz.prog) 300 kpT hG 60) fix1 = true := by kernel_rfl
theorem fix2_ok : mfB (evCall (tabT Tryz.prog) (tabF Tryz.prog) 300 kpT hG 60) fix2 = true := by kernel_rfl
theorem fix3_ok : mfB (evCall (tabT Tryz.prog) (tabF Tryz.prog) 300 kpT hG 60) fix3 = true := by kernel_rfl
theorem fix4_ok : mfB (evCall (tabT Tryz.prog) (tabF Tryz.prog) 300 kpT hG 60) fix4 = true := by kernel_rfl
theorem fix5_ok : mfB (evCall (tabT Tryz.prog) (tabF Tryz.prog) 300 kpT hG 60) fix5 = true := by kernel_rfl
theorem fix6_ok : mfB (evCall (tabT Tryz.prog) (tabF Tryz.prog) 300 kpT hG 60) fix6 = true := by kernel_rfl
theorem fix7_ok : mfB (evCall (tabT Tryz.prog) (tabF Tryz.prog) 300 kpT hG 60) fix7 = true := by kernel_rfl
theorem fix8_ok : mfB (evCall (tabT Tryz.prog) (tabF Tryz.prog) 300 kpT hG 60) fix8 = true := by kernel_rfl
theorem fix9_ok : mfB (evCall (tabT Tryz.prog) (tabF Tryz.prog) 300 kpT hG 60) fix9 = true := by kernel_rfl
theorem fix10_ok : mfB (evCall (tabT Tryz.prog) (tabF Tryz.prog) 300 kpT hG 60) fix10 = true := by kernel_rfl
theorem fix11_ok : mfB (evCall (tabT Tryz.prog) (tabF Tryz.prog) 300 kpT hG 60) fix11 = true := by kernel_rfl
theorem fix12_ok : mfB (evCall (tabT Tryz.prog) (tabF Tryz.prog) 300 kpT hG 60) fix12 = true := by kernel_rfl
theorem fix13_ok : mfB (evCall (tabT Tryz.prog) (tabF Tryz.prog) 300 kpT hG 60) fix13 = true := by kernel_rfl
theorem fix14_ok : mfB (evCall (tabT Tryz.prog) (tabF Tryz.prog) 300 kpT hG 60) fix14 = true := by kernel_rfl
theorem fix15_ok : mfB (evCall (tabT Tryz.prog) (tabF Tryz.prog) 300 kpT hG 60) fix15 = true := by kernel_rfl
theorem fix16_ok : mfB (evCall (tabT Tryz.prog) (tabF Tryz.prog) 300 kpT hG 60) fix16 = true := by kernel_rfl
theorem fix17_ok : mfB (evCall (tabT Tryz.prog) (tabF Tryz.prog) 300 kpT hG 60) fix17 = true := by kernel_rfl
theorem fix18_ok : mfB (evCall (tabT Tryz.prog) (tabF Tryz.prog) 300 kpT hG 60) fix18 = true := by kernel_rfl
theorem fix19_ok : mfB (evCall (tabT Tryz.prog) (tabF Tryz.prog) 300 kpT hG 60) fix19 = true := by kernel_rfl
theorem fix20_ok : mfB (evCall (tabT Tryz.prog) (tabF Tryz.prog) 300 kpT hG 60) fix20 = true := by kernel_rfl
def fixL : List MF := [fix0, fix1, fix2, fix3, fix4, fix5, fix6, fix7, fix8, fix9, fix10, fix11, fix12, fix13, fix14, fix15, fix16, fix17, fix18, fix19, fix20]
theorem fixL_ok : CallOK Tryz.prog (memoF fixL) := memoF_ok (evCall_sound (tabT_ok _) (tabF_ok _) mixed 300 kpT hG_ok 60) (by
  intro e he
  simp only [fixL, List.mem_cons, List.not_mem_nil, or_false] at he
  rcases he with rfl | rfl | rfl | rfl | rfl | rfl | rfl | rfl | rfl | rfl | rfl | rfl | rfl | rfl | rfl | rfl | rfl | rfl | rfl | rfl | rfl
  · exact mfB_ok fix0_ok
  · exact mfB_ok fix1_ok
  · exact mfB_ok fix2_ok
  · exact mfB_ok fix3_ok
  · exact mfB_ok fix4_ok
  · exact mfB_ok fix5_ok
  · exact mfB_ok fix6_ok
  · exact mfB_ok fix7_ok
  · exact mfB_ok fix8_ok
  · exact mfB_ok fix9_ok
  · exact mfB_ok fix10_ok
  · exact mfB_ok fix11_ok
  · exact mfB_ok fix12_ok
  · exact mfB_ok fix13_ok
  · exact mfB_ok fix14_ok
  · exact mfB_ok fix15_ok
  · exact mfB_ok fix16_ok
  · exact mfB_ok fix17_ok
  · exact mfB_ok fix18_ok
  · exact mfB_ok fix19_ok
  · exact mfB_ok fix20_ok)

end Go.Proofs.YtblbjdobhlgghaaGreatDoor
