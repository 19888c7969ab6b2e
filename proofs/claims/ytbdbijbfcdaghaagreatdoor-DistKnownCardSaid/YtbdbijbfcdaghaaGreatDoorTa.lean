/-
  What is proved: the answers of tile.Check and tile.find at the small set.
-/
import Derived.Test.YtbdbijbfcdaghaaGreatDoorEvR
import Derived.Test.YtbdbijbfcdaghaaGreatDoorFa
namespace Go.Proofs.YtbdbijbfcdaghaaGreatDoor
open Go.RowKit

def ta0 : MF := ⟨72, [.agg #[.int .i64 (3), .slice (some ⟨0, 0, none⟩) 1 1, .int .i64 (0), .int .i64 (1), .int .i64 (0), .int .i64 (4), .int .i64 (1), .int .i64 (2), .slice (some ⟨1, 0, none⟩) 1 1]], ⟨2, [(1, .cells true [.int .i64 (1)]), (0, .cells true [.int .i64 (3)])]⟩, .int .i64 (0), []⟩
def ta1 : MF := ⟨87, [.agg #[.int .i64 (3), .slice (some ⟨0, 0, none⟩) 1 1, .int .i64 (0), .int .i64 (1), .int .i64 (0), .int .i64 (4), .int .i64 (1), .int .i64 (2), .slice (some ⟨1, 0, none⟩) 1 1], .int .i64 (-1)], ⟨2, [(1, .cells true [.int .i64 (1)]), (0, .cells true [.int .i64 (3)])]⟩, (Value.tuple #[(Value.agg #[.int .i64 (0), .int .i64 (0), .int .i64 (0)]), .bool false]), []⟩
def ta2 : MF := ⟨87, [.agg #[.int .i64 (3), .slice (some ⟨0, 0, none⟩) 1 1, .int .i64 (0), .int .i64 (1), .int .i64 (0), .int .i64 (4), .int .i64 (1), .int .i64 (2), .slice (some ⟨1, 0, none⟩) 1 1], .int .i64 (0)], ⟨2, [(1, .cells true [.int .i64 (1)]), (0, .cells true [.int .i64 (3)])]⟩, (Value.tuple #[(Value.agg #[.int .i64 (0), .int .i64 (0), .int .i64 (3)]), .bool true]), []⟩
def ta3 : MF := ⟨87, [.agg #[.int .i64 (3), .slice (some ⟨0, 0, none⟩) 1 1, .int .i64 (0), .int .i64 (1), .int .i64 (0), .int .i64 (4), .int .i64 (1), .int .i64 (2), .slice (some ⟨1, 0, none⟩) 1 1], .int .i64 (1)], ⟨2, [(1, .cells true [.int .i64 (1)]), (0, .cells true [.int .i64 (3)])]⟩, (Value.tuple #[(Value.agg #[.int .i64 (0), .int .i64 (1), .int .i64 (3)]), .bool true]), []⟩
def ta4 : MF := ⟨87, [.agg #[.int .i64 (3), .slice (some ⟨0, 0, none⟩) 1 1, .int .i64 (0), .int .i64 (1), .int .i64 (0), .int .i64 (4), .int .i64 (1), .int .i64 (2), .slice (some ⟨1, 0, none⟩) 1 1], .int .i64 (2)], ⟨2, [(1, .cells true [.int .i64 (1)]), (0, .cells true [.int .i64 (3)])]⟩, (Value.tuple #[(Value.agg #[.int .i64 (0), .int .i64 (2), .int .i64 (3)]), .bool true]), []⟩
def ta5 : MF := ⟨87, [.agg #[.int .i64 (3), .slice (some ⟨0, 0, none⟩) 1 1, .int .i64 (0), .int .i64 (1), .int .i64 (0), .int .i64 (4), .int .i64 (1), .int .i64 (2), .slice (some ⟨1, 0, none⟩) 1 1], .int .i64 (3)], ⟨2, [(1, .cells true [.int .i64 (1)]), (0, .cells true [.int .i64 (3)])]⟩, (Value.tuple #[(Value.agg #[.int .i64 (-2), .int .i64 (0), .int .i64 (1)]), .bool true]), []⟩
def ta6 : MF := ⟨87, [.agg #[.int .i64 (3), .slice (some ⟨0, 0, none⟩) 1 1, .int .i64 (0), .int .i64 (1), .int .i64 (0), .int .i64 (4), .int .i64 (1), .int .i64 (2), .slice (some ⟨1, 0, none⟩) 1 1], .int .i64 (4)], ⟨2, [(1, .cells true [.int .i64 (1)]), (0, .cells true [.int .i64 (3)])]⟩, (Value.tuple #[(Value.agg #[.int .i64 (0), .int .i64 (0), .int .i64 (0)]), .bool false]), []⟩
theorem ta0_ok : mfB (evCall (tabT Tryz.prog) (tabF Tryz.prog) 300 kpT noH 12) ta0 = true := by kernel_rfl
theorem ta1_ok : mfB (evCall (tabT Tryz.prog) (tabF Tryz.prog) 300 kpT noH 12) ta1 = true := by kernel_rfl
theorem ta2_ok : mfB (evCall (tabT Tryz.prog) (tabF Tryz.prog) 300 kpT noH 12) ta2 = true := by kernel_rfl
theorem ta3_ok : mfB (evCall (tabT Tryz.prog) (tabF Tryz.prog) 300 kpT noH 12) ta3 = true := by kernel_rfl
theorem ta4_ok : mfB (evCall (tabT Tryz.prog) (tabF Tryz.prog) 300 kpT noH 12) ta4 = true := by kernel_rfl
theorem ta5_ok : mfB (evCall (tabT Tryz.prog) (tabF Tryz.prog) 300 kpT noH 12) ta5 = true := by kernel_rfl
theorem ta6_ok : mfB (evCall (tabT Tryz.prog) (tabF Tryz.prog) 300 kpT noH 12) ta6 = true := by kernel_rfl
def taL : List MF := [ta0, ta1, ta2, ta3, ta4, ta5, ta6]
theorem taL_ok : CallOK Tryz.prog (memoF taL) := memoF_ok (evCall_sound (tabT_ok _) (tabF_ok _) mixed 300 kpT noH_ok 12) (by
  intro e he
  simp only [taL, List.mem_cons, List.not_mem_nil, or_false] at he
  rcases he with rfl | rfl | rfl | rfl | rfl | rfl | rfl
  · exact mfB_ok ta0_ok
  · exact mfB_ok ta1_ok
  · exact mfB_ok ta2_ok
  · exact mfB_ok ta3_ok
  · exact mfB_ok ta4_ok
  · exact mfB_ok ta5_ok
  · exact mfB_ok ta6_ok)

end Go.Proofs.YtbdbijbfcdaghaaGreatDoor
