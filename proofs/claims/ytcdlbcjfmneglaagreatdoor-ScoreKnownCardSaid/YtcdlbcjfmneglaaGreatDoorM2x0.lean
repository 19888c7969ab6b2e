/-
  What is proved: what functions answer for examples.
-/
import Derived.Test.YtcdlbcjfmneglaaGreatDoorM1j
namespace Go.Proofs.YtcdlbcjfmneglaaGreatDoor
open Go.RowKit

def m2x0e0 : MF := ⟨32, [(Value.agg #[.int .i64 (3), (Value.slice (some ⟨0, 0, none⟩) 1 1), .int .i64 (0), .int .i64 (1), .int .i64 (0), .int .i64 (4), .int .i64 (1), .int .i64 (2), (Value.slice (some ⟨1, 0, none⟩) 1 1)]), (Value.slice (some ⟨2, 0, none⟩) 1 3)], ⟨3, [(2, (ABlk.cellsT true [.int .i64 (1), (Value.slice none 0 0), .bool false] none)), (1, (ABlk.cellsT true [.int .i64 (1)] none)), (0, (ABlk.cellsT true [.int .i64 (3)] none))]⟩, .int .i64 (0), []⟩
def m2x0e1 : MF := ⟨71, [.int .i64 (4), (Value.slice none 0 0)], ⟨0, []⟩, (Value.tuple #[.bool false, .int .i64 (0)]), []⟩
def m2x0e2 : MF := ⟨32, [(Value.agg #[.int .i64 (4), (Value.slice (some ⟨0, 0, none⟩) 1 1), .int .i64 (0), .int .i64 (1), .int .i64 (0), .int .i64 (4), .int .i64 (1), .int .i64 (2), (Value.slice (some ⟨1, 0, none⟩) 1 1)]), (Value.slice (some ⟨2, 0, none⟩) 1 3)], ⟨3, [(2, (ABlk.cellsT true [.int .i64 (1), (Value.slice none 0 0), .bool false] none)), (1, (ABlk.cellsT true [.int .i64 (1)] none)), (0, (ABlk.cellsT true [.int .i64 (4)] none))]⟩, .int .i64 (0), []⟩
def m2x0e3 : MF := ⟨71, [.int .i64 (5), (Value.slice none 0 0)], ⟨0, []⟩, (Value.tuple #[.bool false, .int .i64 (0)]), []⟩
def m2x0e4 : MF := ⟨59, [(Value.agg #[.int .i64 (3), (Value.slice (some ⟨0, 0, none⟩) 1 1), .int .i64 (0), .int .i64 (1), .int .i64 (0), .int .i64 (4), .int .i64 (1), .int .i64 (2), (Value.slice (some ⟨1, 0, none⟩) 1 1)]), (Value.agg #[(Value.slice (some ⟨2, 0, none⟩) 4 1), (Value.slice none 0 0)])], ⟨3, [(2, (ABlk.cellsT true [.int .i64 (1), .int .i64 (1), .int .i64 (3), .int .i64 (0)] none)), (1, (ABlk.cellsT true [.int .i64 (1)] none)), (0, (ABlk.cellsT true [.int .i64 (3)] none))]⟩, .int .i64 (0), []⟩
def m2x0e5 : MF := ⟨60, [(Value.agg #[.int .i64 (3), (Value.slice (some ⟨0, 0, none⟩) 1 1), .int .i64 (0), .int .i64 (1), .int .i64 (0), .int .i64 (4), .int .i64 (1), .int .i64 (2), (Value.slice (some ⟨1, 0, none⟩) 1 1)]), (Value.agg #[(Value.slice (some ⟨2, 0, none⟩) 4 1), (Value.slice none 0 0)])], ⟨3, [(2, (ABlk.cellsT true [.int .i64 (1), .int .i64 (1), .int .i64 (3), .int .i64 (0)] none)), (1, (ABlk.cellsT true [.int .i64 (1)] none)), (0, (ABlk.cellsT true [.int .i64 (3)] none))]⟩, .bool true, []⟩
def m2x0e6 : MF := ⟨160, [(Value.agg #[.int .i64 (3), (Value.slice (some ⟨0, 0, none⟩) 1 1), .int .i64 (0), .int .i64 (1), .int .i64 (0), .int .i64 (4), .int .i64 (1), .int .i64 (2), (Value.slice (some ⟨1, 0, none⟩) 1 1)]), .int .i64 (0)], ⟨2, [(1, (ABlk.cellsT true [.int .i64 (1)] none)), (0, (ABlk.cellsT true [.int .i64 (3)] none))]⟩, (Value.tuple #[.int .i64 (0), .int .i64 (0)]), []⟩
def m2x0e7 : MF := ⟨160, [(Value.agg #[.int .i64 (3), (Value.slice (some ⟨0, 0, none⟩) 1 1), .int .i64 (0), .int .i64 (1), .int .i64 (0), .int .i64 (4), .int .i64 (1), .int .i64 (2), (Value.slice (some ⟨1, 0, none⟩) 1 1)]), .int .i64 (1)], ⟨2, [(1, (ABlk.cellsT true [.int .i64 (1)] none)), (0, (ABlk.cellsT true [.int .i64 (3)] none))]⟩, (Value.tuple #[.int .i64 (0), .int .i64 (1)]), []⟩
def m2x0e8 : MF := ⟨160, [(Value.agg #[.int .i64 (3), (Value.slice (some ⟨0, 0, none⟩) 1 1), .int .i64 (0), .int .i64 (1), .int .i64 (0), .int .i64 (4), .int .i64 (1), .int .i64 (2), (Value.slice (some ⟨1, 0, none⟩) 1 1)]), .int .i64 (2)], ⟨2, [(1, (ABlk.cellsT true [.int .i64 (1)] none)), (0, (ABlk.cellsT true [.int .i64 (3)] none))]⟩, (Value.tuple #[.int .i64 (0), .int .i64 (2)]), []⟩
def m2x0e9 : MF := ⟨160, [(Value.agg #[.int .i64 (3), (Value.slice (some ⟨0, 0, none⟩) 1 1), .int .i64 (0), .int .i64 (1), .int .i64 (0), .int .i64 (4), .int .i64 (1), .int .i64 (2), (Value.slice (some ⟨1, 0, none⟩) 1 1)]), .int .i64 (3)], ⟨2, [(1, (ABlk.cellsT true [.int .i64 (1)] none)), (0, (ABlk.cellsT true [.int .i64 (3)] none))]⟩, (Value.tuple #[.int .i64 (-2), .int .i64 (0)]), []⟩
def m2x0e10 : MF := ⟨137, [(Value.agg #[.int .i64 (3), (Value.slice (some ⟨0, 0, none⟩) 1 1), .int .i64 (0), .int .i64 (1), .int .i64 (0), .int .i64 (4), .int .i64 (1), .int .i64 (2), (Value.slice (some ⟨1, 0, none⟩) 1 1)]), (Value.agg #[.int .i64 (1), .int .i64 (0), .bool false])], ⟨2, [(1, (ABlk.cellsT true [.int .i64 (1)] none)), (0, (ABlk.cellsT true [.int .i64 (3)] none))]⟩, (Value.slice (some ⟨2, 0, none⟩) 3 1), [(2, (ABlk.cellsT false [.int .i64 (0), .int .i64 (1), .int .i64 (2)] none))]⟩
def m2x0e11 : MF := ⟨138, [(Value.agg #[.int .i64 (3), (Value.slice (some ⟨0, 0, none⟩) 1 1), .int .i64 (0), .int .i64 (1), .int .i64 (0), .int .i64 (4), .int .i64 (1), .int .i64 (2), (Value.slice (some ⟨1, 0, none⟩) 1 1)]), (Value.slice (some ⟨2, 0, none⟩) 3 2)], ⟨3, [(2, (ABlk.cellsT true [.int .i64 (0), .bool false, .int .i64 (1), .bool false, .int .i64 (2), .bool false] none)), (1, (ABlk.cellsT true [.int .i64 (1)] none)), (0, (ABlk.cellsT true [.int .i64 (3)] none))]⟩, (Value.tuple #[(Value.string ⟨#[49, 50, 51, 109]⟩), .int .i64 (0)]), []⟩
theorem m2x0e0_ok : mfB (evCall (tabT Tryz.prog) (tabF Tryz.prog) 300 kpT hm1 60) m2x0e0 = true := by kernel_rfl
theorem m2x0e1_ok : mfB (evCall (tabT Tryz.prog) (tabF Tryz.prog) 300 kpT hm1 60) m2x0e1 = true := by kernel_rfl
theorem m2x0e2_ok : mfB (evCall (tabT Tryz.prog) (tabF Tryz.prog) 300 kpT hm1 60) m2x0e2 = true := by kernel_rfl
theorem m2x0e3_ok : mfB (evCall (tabT Tryz.prog) (tabF Tryz.prog) 300 kpT hm1 60) m2x0e3 = true := by kernel_rfl
theorem m2x0e4_ok : mfB (evCall (tabT Tryz.prog) (tabF Tryz.prog) 300 kpT hm1 60) m2x0e4 = true := by kernel_rfl
theorem m2x0e5_ok : mfB (evCall (tabT Tryz.prog) (tabF Tryz.prog) 300 kpT hm1 60) m2x0e5 = true := by kernel_rfl
theorem m2x0e6_ok : mfB (evCall (tabT Tryz.prog) (tabF Tryz.prog) 300 kpT hm1 60) m2x0e6 = true := by kernel_rfl
theorem m2x0e7_ok : mfB (evCall (tabT Tryz.prog) (tabF Tryz.prog) 300 kpT hm1 60) m2x0e7 = true := by kernel_rfl
theorem m2x0e8_ok : mfB (evCall (tabT Tryz.prog) (tabF Tryz.prog) 300 kpT hm1 60) m2x0e8 = true := by kernel_rfl
theorem m2x0e9_ok : mfB (evCall (tabT Tryz.prog) (tabF Tryz.prog) 300 kpT hm1 60) m2x0e9 = true := by kernel_rfl
theorem m2x0e10_ok : mfB (evCall (tabT Tryz.prog) (tabF Tryz.prog) 300 kpT hm1 60) m2x0e10 = true := by kernel_rfl
theorem m2x0e11_ok : mfB (evCall (tabT Tryz.prog) (tabF Tryz.prog) 300 kpT hm1 60) m2x0e11 = true := by kernel_rfl
def m2x0L : List MF := [m2x0e0, m2x0e1, m2x0e2, m2x0e3, m2x0e4, m2x0e5, m2x0e6, m2x0e7, m2x0e8, m2x0e9, m2x0e10, m2x0e11]
theorem m2x0L_ok : CallOK Tryz.prog (memoF m2x0L) := memoF_ok (evCall_sound (tabT_ok _) (tabF_ok _) mixed 300 kpT hm1_ok 60) (by
  intro e he
  simp only [m2x0L, List.mem_cons, List.not_mem_nil, or_false] at he
  rcases he with rfl | rfl | rfl | rfl | rfl | rfl | rfl | rfl | rfl | rfl | rfl | rfl
  · exact mfB_ok m2x0e0_ok
  · exact mfB_ok m2x0e1_ok
  · exact mfB_ok m2x0e2_ok
  · exact mfB_ok m2x0e3_ok
  · exact mfB_ok m2x0e4_ok
  · exact mfB_ok m2x0e5_ok
  · exact mfB_ok m2x0e6_ok
  · exact mfB_ok m2x0e7_ok
  · exact mfB_ok m2x0e8_ok
  · exact mfB_ok m2x0e9_ok
  · exact mfB_ok m2x0e10_ok
  · exact mfB_ok m2x0e11_ok)

end Go.Proofs.YtcdlbcjfmneglaaGreatDoor
