/-
  What is proved: what functions answer for examples.
-/
import Derived.Test.YtcdlbcjfmneglaaGreatDoorM1j
namespace Go.Proofs.YtcdlbcjfmneglaaGreatDoor
open Go.RowKit

def m2x1e0 : MF := ⟨137, [(Value.agg #[.int .i64 (3), (Value.slice (some ⟨0, 0, none⟩) 1 1), .int .i64 (0), .int .i64 (1), .int .i64 (0), .int .i64 (4), .int .i64 (1), .int .i64 (2), (Value.slice (some ⟨1, 0, none⟩) 1 1)]), (Value.agg #[.int .i64 (4), .int .i64 (2), .bool false])], ⟨2, [(1, (ABlk.cellsT true [.int .i64 (1)] none)), (0, (ABlk.cellsT true [.int .i64 (3)] none))]⟩, (Value.slice (some ⟨2, 0, none⟩) 2 1), [(2, (ABlk.cellsT false [.int .i64 (2), .int .i64 (2)] none))]⟩
def m2x1e1 : MF := ⟨138, [(Value.agg #[.int .i64 (3), (Value.slice (some ⟨0, 0, none⟩) 1 1), .int .i64 (0), .int .i64 (1), .int .i64 (0), .int .i64 (4), .int .i64 (1), .int .i64 (2), (Value.slice (some ⟨1, 0, none⟩) 1 1)]), (Value.slice (some ⟨2, 0, none⟩) 2 2)], ⟨3, [(2, (ABlk.cellsT true [.int .i64 (2), .bool false, .int .i64 (2), .bool false] none)), (1, (ABlk.cellsT true [.int .i64 (1)] none)), (0, (ABlk.cellsT true [.int .i64 (3)] none))]⟩, (Value.tuple #[(Value.string ⟨#[51, 51, 109]⟩), .int .i64 (0)]), []⟩
def m2x1e2 : MF := ⟨94, [(Value.slice (some ⟨0, 0, none⟩) 2 1), (Value.string ⟨#[32]⟩)], ⟨1, [(0, (ABlk.cellsT true [(Value.string ⟨#[49, 50, 51, 109, 42]⟩), (Value.string ⟨#[51, 51, 109]⟩)] none))]⟩, (Value.string ⟨#[49, 50, 51, 109, 42, 32, 51, 51, 109]⟩), []⟩
def m2x1e3 : MF := ⟨94, [(Value.slice (some ⟨0, 0, none⟩) 3 1), (Value.string ⟨#[32]⟩)], ⟨1, [(0, (ABlk.cellsT true [(Value.string ⟨#[45]⟩), (Value.string ⟨#[97]⟩), (Value.string ⟨#[98]⟩)] none))]⟩, (Value.string ⟨#[45, 32, 97, 32, 98]⟩), []⟩
def m2x1e4 : MF := ⟨94, [(Value.slice (some ⟨0, 0, none⟩) 3 1), (Value.string ⟨#[32]⟩)], ⟨1, [(0, (ABlk.cellsT true [(Value.string ⟨#[43]⟩), (Value.string ⟨#[98]⟩), (Value.string ⟨#[51]⟩)] none))]⟩, (Value.string ⟨#[43, 32, 98, 32, 51]⟩), []⟩
def m2x1e5 : MF := ⟨94, [(Value.slice (some ⟨0, 0, none⟩) 3 1), (Value.string ⟨#[32]⟩)], ⟨1, [(0, (ABlk.cellsT true [(Value.string ⟨#[43]⟩), (Value.string ⟨#[99]⟩), (Value.string ⟨#[50]⟩)] none))]⟩, (Value.string ⟨#[43, 32, 99, 32, 50]⟩), []⟩
def m2x1e6 : MF := ⟨94, [(Value.slice (some ⟨0, 0, none⟩) 5 1), (Value.string ⟨#[32]⟩)], ⟨1, [(0, (ABlk.cellsT true [(Value.string ⟨#[61]⟩), (Value.string ⟨#[53]⟩), (Value.string ⟨#[48]⟩), (Value.string ⟨#[49]⟩), (Value.string ⟨#[50, 48, 48, 48]⟩)] none))]⟩, (Value.string ⟨#[61, 32, 53, 32, 48, 32, 49, 32, 50, 48, 48, 48]⟩), []⟩
def m2x1e7 : MF := ⟨59, [(Value.agg #[.int .i64 (3), (Value.slice (some ⟨0, 0, none⟩) 1 1), .int .i64 (0), .int .i64 (1), .int .i64 (0), .int .i64 (4), .int .i64 (1), .int .i64 (2), (Value.slice (some ⟨1, 0, none⟩) 1 1)]), (Value.agg #[(Value.slice (some ⟨2, 0, none⟩) 4 1), (Value.slice none 0 0)])], ⟨3, [(2, (ABlk.cellsT true [.int .i64 (1), .int .i64 (1), .int .i64 (2), .int .i64 (1)] none)), (1, (ABlk.cellsT true [.int .i64 (1)] none)), (0, (ABlk.cellsT true [.int .i64 (3)] none))]⟩, .int .i64 (0), []⟩
def m2x1e8 : MF := ⟨60, [(Value.agg #[.int .i64 (3), (Value.slice (some ⟨0, 0, none⟩) 1 1), .int .i64 (0), .int .i64 (1), .int .i64 (0), .int .i64 (4), .int .i64 (1), .int .i64 (2), (Value.slice (some ⟨1, 0, none⟩) 1 1)]), (Value.agg #[(Value.slice (some ⟨2, 0, none⟩) 4 1), (Value.slice none 0 0)])], ⟨3, [(2, (ABlk.cellsT true [.int .i64 (1), .int .i64 (1), .int .i64 (2), .int .i64 (1)] none)), (1, (ABlk.cellsT true [.int .i64 (1)] none)), (0, (ABlk.cellsT true [.int .i64 (3)] none))]⟩, .bool true, []⟩
def m2x1e9 : MF := ⟨59, [(Value.agg #[.int .i64 (3), (Value.slice (some ⟨0, 0, none⟩) 1 1), .int .i64 (0), .int .i64 (1), .int .i64 (0), .int .i64 (4), .int .i64 (1), .int .i64 (2), (Value.slice (some ⟨1, 0, none⟩) 1 1)]), (Value.agg #[(Value.slice (some ⟨2, 0, none⟩) 4 1), (Value.slice none 0 0)])], ⟨3, [(2, (ABlk.cellsT true [.int .i64 (1), .int .i64 (1), .int .i64 (2), .int .i64 (0)] none)), (1, (ABlk.cellsT true [.int .i64 (1)] none)), (0, (ABlk.cellsT true [.int .i64 (3)] none))]⟩, .int .i64 (0), []⟩
def m2x1e10 : MF := ⟨60, [(Value.agg #[.int .i64 (3), (Value.slice (some ⟨0, 0, none⟩) 1 1), .int .i64 (0), .int .i64 (1), .int .i64 (0), .int .i64 (4), .int .i64 (1), .int .i64 (2), (Value.slice (some ⟨1, 0, none⟩) 1 1)]), (Value.agg #[(Value.slice (some ⟨2, 0, none⟩) 4 1), (Value.slice none 0 0)])], ⟨3, [(2, (ABlk.cellsT true [.int .i64 (1), .int .i64 (1), .int .i64 (2), .int .i64 (0)] none)), (1, (ABlk.cellsT true [.int .i64 (1)] none)), (0, (ABlk.cellsT true [.int .i64 (3)] none))]⟩, .bool false, []⟩
def m2x1e11 : MF := ⟨32, [(Value.agg #[.int .i64 (4), (Value.slice (some ⟨0, 0, none⟩) 1 1), .int .i64 (0), .int .i64 (1), .int .i64 (0), .int .i64 (4), .int .i64 (2), .int .i64 (2), (Value.slice (some ⟨1, 0, none⟩) 1 1)]), (Value.slice (some ⟨2, 0, none⟩) 1 3)], ⟨3, [(2, (ABlk.cellsT true [.int .i64 (1), (Value.slice none 0 0), .bool false] none)), (1, (ABlk.cellsT true [.int .i64 (1)] none)), (0, (ABlk.cellsT true [.int .i64 (9)] none))]⟩, .int .i64 (0), []⟩
theorem m2x1e0_ok : mfB (evCall (tabT Tryz.prog) (tabF Tryz.prog) 300 kpT hm1 60) m2x1e0 = true := by kernel_rfl
theorem m2x1e1_ok : mfB (evCall (tabT Tryz.prog) (tabF Tryz.prog) 300 kpT hm1 60) m2x1e1 = true := by kernel_rfl
theorem m2x1e2_ok : mfB (evCall (tabT Tryz.prog) (tabF Tryz.prog) 300 kpT hm1 60) m2x1e2 = true := by kernel_rfl
theorem m2x1e3_ok : mfB (evCall (tabT Tryz.prog) (tabF Tryz.prog) 300 kpT hm1 60) m2x1e3 = true := by kernel_rfl
theorem m2x1e4_ok : mfB (evCall (tabT Tryz.prog) (tabF Tryz.prog) 300 kpT hm1 60) m2x1e4 = true := by kernel_rfl
theorem m2x1e5_ok : mfB (evCall (tabT Tryz.prog) (tabF Tryz.prog) 300 kpT hm1 60) m2x1e5 = true := by kernel_rfl
theorem m2x1e6_ok : mfB (evCall (tabT Tryz.prog) (tabF Tryz.prog) 300 kpT hm1 60) m2x1e6 = true := by kernel_rfl
theorem m2x1e7_ok : mfB (evCall (tabT Tryz.prog) (tabF Tryz.prog) 300 kpT hm1 60) m2x1e7 = true := by kernel_rfl
theorem m2x1e8_ok : mfB (evCall (tabT Tryz.prog) (tabF Tryz.prog) 300 kpT hm1 60) m2x1e8 = true := by kernel_rfl
theorem m2x1e9_ok : mfB (evCall (tabT Tryz.prog) (tabF Tryz.prog) 300 kpT hm1 60) m2x1e9 = true := by kernel_rfl
theorem m2x1e10_ok : mfB (evCall (tabT Tryz.prog) (tabF Tryz.prog) 300 kpT hm1 60) m2x1e10 = true := by kernel_rfl
theorem m2x1e11_ok : mfB (evCall (tabT Tryz.prog) (tabF Tryz.prog) 300 kpT hm1 60) m2x1e11 = true := by kernel_rfl
def m2x1L : List MF := [m2x1e0, m2x1e1, m2x1e2, m2x1e3, m2x1e4, m2x1e5, m2x1e6, m2x1e7, m2x1e8, m2x1e9, m2x1e10, m2x1e11]
theorem m2x1L_ok : CallOK Tryz.prog (memoF m2x1L) := memoF_ok (evCall_sound (tabT_ok _) (tabF_ok _) mixed 300 kpT hm1_ok 60) (by
  intro e he
  simp only [m2x1L, List.mem_cons, List.not_mem_nil, or_false] at he
  rcases he with rfl | rfl | rfl | rfl | rfl | rfl | rfl | rfl | rfl | rfl | rfl | rfl
  · exact mfB_ok m2x1e0_ok
  · exact mfB_ok m2x1e1_ok
  · exact mfB_ok m2x1e2_ok
  · exact mfB_ok m2x1e3_ok
  · exact mfB_ok m2x1e4_ok
  · exact mfB_ok m2x1e5_ok
  · exact mfB_ok m2x1e6_ok
  · exact mfB_ok m2x1e7_ok
  · exact mfB_ok m2x1e8_ok
  · exact mfB_ok m2x1e9_ok
  · exact mfB_ok m2x1e10_ok
  · exact mfB_ok m2x1e11_ok)

end Go.Proofs.YtcdlbcjfmneglaaGreatDoor
