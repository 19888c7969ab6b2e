/-
  What is proved: what functions answer for examples of the small set.
-/
import Derived.Test.YtmmhoegggmmbbaaGreatDoorM1j
namespace Go.Proofs.YtmmhoegggmmbbaaGreatDoor
open Go.RowKit

def m2x2e0 : MF := ⟨38, [(Value.agg #[.int .i64 (3), (Value.slice (some ⟨0, 0, none⟩) 1 1), .int .i64 (0), .int .i64 (1), .int .i64 (0), .int .i64 (4), .int .i64 (1), .int .i64 (2), (Value.slice (some ⟨1, 0, none⟩) 1 1)]), (Value.agg #[(Value.slice (some ⟨2, 0, none⟩) 4 1), (Value.slice (some ⟨3, 0, none⟩) 1 3)])], ⟨4, [(3, (ABlk.cellsT true [.int .i64 (2), .int .i64 (3), .bool true] none)), (2, (ABlk.cellsT true [.int .i64 (2), .int .i64 (0), .int .i64 (0), .int .i64 (0)] none)), (1, (ABlk.cellsT true [.int .i64 (1)] none)), (0, (ABlk.cellsT true [.int .i64 (3)] none))]⟩, .int .i64 (0), []⟩
def m2x2e1 : MF := ⟨39, [(Value.agg #[.int .i64 (3), (Value.slice (some ⟨0, 0, none⟩) 1 1), .int .i64 (0), .int .i64 (1), .int .i64 (0), .int .i64 (4), .int .i64 (1), .int .i64 (2), (Value.slice (some ⟨1, 0, none⟩) 1 1)]), (Value.agg #[(Value.slice (some ⟨2, 0, none⟩) 4 1), (Value.slice (some ⟨3, 0, none⟩) 1 3)])], ⟨4, [(3, (ABlk.cellsT true [.int .i64 (2), .int .i64 (3), .bool true] none)), (2, (ABlk.cellsT true [.int .i64 (2), .int .i64 (0), .int .i64 (0), .int .i64 (0)] none)), (1, (ABlk.cellsT true [.int .i64 (1)] none)), (0, (ABlk.cellsT true [.int .i64 (3)] none))]⟩, .bool true, []⟩
def m2x2e2 : MF := ⟨178, [(Value.agg #[.int .i64 (3), (Value.slice (some ⟨0, 0, none⟩) 1 1), .int .i64 (0), .int .i64 (1), .int .i64 (0), .int .i64 (4), .int .i64 (1), .int .i64 (2), (Value.slice (some ⟨1, 0, none⟩) 1 1)]), (Value.agg #[.int .i64 (2), .int .i64 (3), .bool true])], ⟨2, [(1, (ABlk.cellsT true [.int .i64 (1)] none)), (0, (ABlk.cellsT true [.int .i64 (3)] none))]⟩, (Value.slice (some ⟨2, 0, none⟩) 3 1), [(2, (ABlk.cellsT false [.int .i64 (3), .int .i64 (3), .int .i64 (3)] none))]⟩
def m2x2e3 : MF := ⟨29, [.int .i64 (4), (Value.slice (some ⟨0, 0, none⟩) 1 7)], ⟨1, [(0, (ABlk.cellsT true [.int .i64 (10), .int .i64 (2), .int .i64 (0), .int .i64 (0), .int .i64 (0), .bool false, (Value.slice none 0 0)] none))]⟩, (Value.tuple #[.bool false, .int .i64 (0)]), []⟩
def m2x2e4 : MF := ⟨29, [.int .i64 (4), (Value.slice (some ⟨0, 0, none⟩) 1 7)], ⟨2, [(1, (ABlk.cellsT true [.int .i64 (0), .int .i64 (3)] none)), (0, (ABlk.cellsT true [.int .i64 (17), .int .i64 (0), .int .i64 (0), .int .i64 (0), .int .i64 (0), .bool false, (Value.slice (some ⟨1, 0, none⟩) 2 1)] none))]⟩, (Value.tuple #[.bool true, .int .i64 (0)]), []⟩
def m2x2e5 : MF := ⟨178, [(Value.agg #[.int .i64 (3), (Value.slice (some ⟨0, 0, none⟩) 1 1), .int .i64 (0), .int .i64 (1), .int .i64 (0), .int .i64 (4), .int .i64 (1), .int .i64 (2), (Value.slice (some ⟨1, 0, none⟩) 1 1)]), (Value.agg #[.int .i64 (4), .int .i64 (0), .bool false])], ⟨2, [(1, (ABlk.cellsT true [.int .i64 (1)] none)), (0, (ABlk.cellsT true [.int .i64 (3)] none))]⟩, (Value.slice (some ⟨2, 0, none⟩) 2 1), [(2, (ABlk.cellsT false [.int .i64 (0), .int .i64 (0)] none))]⟩
def m2x2e6 : MF := ⟨29, [.int .i64 (4), (Value.slice (some ⟨0, 0, none⟩) 2 7)], ⟨1, [(0, (ABlk.cellsT true [.int .i64 (15), .int .i64 (0), .int .i64 (4), .int .i64 (0), .int .i64 (0), .bool false, (Value.slice none 0 0), .int .i64 (17), .int .i64 (0), .int .i64 (0), .int .i64 (0), .int .i64 (0), .bool false, (Value.slice none 0 0)] none))]⟩, (Value.tuple #[.bool true, .int .i64 (0)]), []⟩
def m2x2e7 : MF := ⟨104, [(Value.slice (some ⟨0, 0, none⟩) 8 1), (Value.string ⟨#[32]⟩)], ⟨1, [(0, (ABlk.cellsT true [(Value.string ⟨#[115, 101, 116]⟩), (Value.string ⟨#[51]⟩), (Value.string ⟨#[49]⟩), (Value.string ⟨#[52]⟩), (Value.string ⟨#[50]⟩), (Value.string ⟨#[48]⟩), (Value.string ⟨#[49]⟩), (Value.string ⟨#[48]⟩)] none))]⟩, (Value.string ⟨#[115, 101, 116, 32, 51, 32, 49, 32, 52, 32, 50, 32, 48, 32, 49, 32, 48]⟩), []⟩
def m2x2e8 : MF := ⟨104, [(Value.slice (some ⟨0, 0, none⟩) 2 1), (Value.string ⟨#[32]⟩)], ⟨1, [(0, (ABlk.cellsT true [(Value.string ⟨#[115, 117, 105, 116, 115]⟩), (Value.string ⟨#[51]⟩)] none))]⟩, (Value.string ⟨#[115, 117, 105, 116, 115, 32, 51]⟩), []⟩
def m2x2e9 : MF := ⟨104, [(Value.slice (some ⟨0, 0, none⟩) 2 1), (Value.string ⟨#[32]⟩)], ⟨1, [(0, (ABlk.cellsT true [(Value.string ⟨#[114, 101, 100, 115]⟩), (Value.string ⟨#[49]⟩)] none))]⟩, (Value.string ⟨#[114, 101, 100, 115, 32, 49]⟩), []⟩
def m2x2e10 : MF := ⟨104, [(Value.slice (some ⟨0, 0, none⟩) 2 1), (Value.string ⟨#[32]⟩)], ⟨1, [(0, (ABlk.cellsT true [(Value.string ⟨#[102, 111, 114, 109]⟩), (Value.string ⟨#[109, 101, 108, 100, 115]⟩)] none))]⟩, (Value.string ⟨#[102, 111, 114, 109, 32, 109, 101, 108, 100, 115]⟩), []⟩
def m2x2e11 : MF := ⟨104, [(Value.slice (some ⟨0, 0, none⟩) 4 1), (Value.string ⟨#[32]⟩)], ⟨1, [(0, (ABlk.cellsT true [(Value.string ⟨#[112, 97, 116, 116, 101, 114, 110]⟩), (Value.string ⟨#[112, 108, 97, 105, 110]⟩), (Value.string ⟨#[49]⟩), (Value.string ⟨#[49]⟩)] none))]⟩, (Value.string ⟨#[112, 97, 116, 116, 101, 114, 110, 32, 112, 108, 97, 105, 110, 32, 49, 32, 49]⟩), []⟩
theorem m2x2e0_ok : mfB (evCall (tabT Tryz.prog) (tabF Tryz.prog) 300 kpT hm1 60) m2x2e0 = true := by kernel_rfl
theorem m2x2e1_ok : mfB (evCall (tabT Tryz.prog) (tabF Tryz.prog) 300 kpT hm1 60) m2x2e1 = true := by kernel_rfl
theorem m2x2e2_ok : mfB (evCall (tabT Tryz.prog) (tabF Tryz.prog) 300 kpT hm1 60) m2x2e2 = true := by kernel_rfl
theorem m2x2e3_ok : mfB (evCall (tabT Tryz.prog) (tabF Tryz.prog) 300 kpT hm1 60) m2x2e3 = true := by kernel_rfl
theorem m2x2e4_ok : mfB (evCall (tabT Tryz.prog) (tabF Tryz.prog) 300 kpT hm1 60) m2x2e4 = true := by kernel_rfl
theorem m2x2e5_ok : mfB (evCall (tabT Tryz.prog) (tabF Tryz.prog) 300 kpT hm1 60) m2x2e5 = true := by kernel_rfl
theorem m2x2e6_ok : mfB (evCall (tabT Tryz.prog) (tabF Tryz.prog) 300 kpT hm1 60) m2x2e6 = true := by kernel_rfl
theorem m2x2e7_ok : mfB (evCall (tabT Tryz.prog) (tabF Tryz.prog) 300 kpT hm1 60) m2x2e7 = true := by kernel_rfl
theorem m2x2e8_ok : mfB (evCall (tabT Tryz.prog) (tabF Tryz.prog) 300 kpT hm1 60) m2x2e8 = true := by kernel_rfl
theorem m2x2e9_ok : mfB (evCall (tabT Tryz.prog) (tabF Tryz.prog) 300 kpT hm1 60) m2x2e9 = true := by kernel_rfl
theorem m2x2e10_ok : mfB (evCall (tabT Tryz.prog) (tabF Tryz.prog) 300 kpT hm1 60) m2x2e10 = true := by kernel_rfl
theorem m2x2e11_ok : mfB (evCall (tabT Tryz.prog) (tabF Tryz.prog) 300 kpT hm1 60) m2x2e11 = true := by kernel_rfl
def m2x2L : List MF := [m2x2e0, m2x2e1, m2x2e2, m2x2e3, m2x2e4, m2x2e5, m2x2e6, m2x2e7, m2x2e8, m2x2e9, m2x2e10, m2x2e11]
theorem m2x2L_ok : CallOK Tryz.prog (memoF m2x2L) := memoF_ok (evCall_sound (tabT_ok _) (tabF_ok _) mixed 300 kpT hm1_ok 60) (by
  intro e he
  simp only [m2x2L, List.mem_cons, List.not_mem_nil, or_false] at he
  rcases he with rfl | rfl | rfl | rfl | rfl | rfl | rfl | rfl | rfl | rfl | rfl | rfl
  · exact mfB_ok m2x2e0_ok
  · exact mfB_ok m2x2e1_ok
  · exact mfB_ok m2x2e2_ok
  · exact mfB_ok m2x2e3_ok
  · exact mfB_ok m2x2e4_ok
  · exact mfB_ok m2x2e5_ok
  · exact mfB_ok m2x2e6_ok
  · exact mfB_ok m2x2e7_ok
  · exact mfB_ok m2x2e8_ok
  · exact mfB_ok m2x2e9_ok
  · exact mfB_ok m2x2e10_ok
  · exact mfB_ok m2x2e11_ok)

end Go.Proofs.YtmmhoegggmmbbaaGreatDoor
