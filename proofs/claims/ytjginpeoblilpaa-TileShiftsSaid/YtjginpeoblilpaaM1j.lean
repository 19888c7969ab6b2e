/-
  What is proved: what functions answer for examples.
-/
import Derived.Test.YtjginpeoblilpaaEvR
import Derived.Test.YtjginpeoblilpaaFa
namespace Go.Proofs.Ytjginpeoblilpaa
open Go.RowKit

def m1x0e0 : MF := ⟨63, [(Value.agg #[.int .i64 (4), (Value.slice (some ⟨0, 0, none⟩) 3 1), .int .i64 (4), .int .i64 (3), .int .i64 (0), .int .i64 (4), .int .i64 (4), .int .i64 (14), (Value.slice (some ⟨1, 0, none⟩) 3 1)])], ⟨2, [(1, (ABlk.cellsT true [.int .i64 (4), .int .i64 (13), .int .i64 (22)] none)), (0, (ABlk.cellsT true [.int .i64 (9), .int .i64 (9), .int .i64 (9)] none))]⟩, .int .i64 (0), []⟩
def m1x0e1 : MF := ⟨49, [(Value.agg #[.int .i64 (4), (Value.slice (some ⟨0, 0, none⟩) 3 1), .int .i64 (4), .int .i64 (3), .int .i64 (0), .int .i64 (4), .int .i64 (4), .int .i64 (14), (Value.slice (some ⟨1, 0, none⟩) 3 1)]), .int .i64 (0)], ⟨2, [(1, (ABlk.cellsT true [.int .i64 (4), .int .i64 (13), .int .i64 (22)] none)), (0, (ABlk.cellsT true [.int .i64 (9), .int .i64 (9), .int .i64 (9)] none))]⟩, (Value.tuple #[(Value.agg #[.int .i64 (0), .int .i64 (0), .int .i64 (9)]), .bool true]), []⟩
def m1x0e2 : MF := ⟨49, [(Value.agg #[.int .i64 (4), (Value.slice (some ⟨0, 0, none⟩) 3 1), .int .i64 (4), .int .i64 (3), .int .i64 (0), .int .i64 (4), .int .i64 (4), .int .i64 (14), (Value.slice (some ⟨1, 0, none⟩) 3 1)]), .int .i64 (1)], ⟨2, [(1, (ABlk.cellsT true [.int .i64 (4), .int .i64 (13), .int .i64 (22)] none)), (0, (ABlk.cellsT true [.int .i64 (9), .int .i64 (9), .int .i64 (9)] none))]⟩, (Value.tuple #[(Value.agg #[.int .i64 (0), .int .i64 (1), .int .i64 (9)]), .bool true]), []⟩
def m1x0e3 : MF := ⟨49, [(Value.agg #[.int .i64 (4), (Value.slice (some ⟨0, 0, none⟩) 3 1), .int .i64 (4), .int .i64 (3), .int .i64 (0), .int .i64 (4), .int .i64 (4), .int .i64 (14), (Value.slice (some ⟨1, 0, none⟩) 3 1)]), .int .i64 (2)], ⟨2, [(1, (ABlk.cellsT true [.int .i64 (4), .int .i64 (13), .int .i64 (22)] none)), (0, (ABlk.cellsT true [.int .i64 (9), .int .i64 (9), .int .i64 (9)] none))]⟩, (Value.tuple #[(Value.agg #[.int .i64 (0), .int .i64 (2), .int .i64 (9)]), .bool true]), []⟩
def m1x0e4 : MF := ⟨49, [(Value.agg #[.int .i64 (4), (Value.slice (some ⟨0, 0, none⟩) 3 1), .int .i64 (4), .int .i64 (3), .int .i64 (0), .int .i64 (4), .int .i64 (4), .int .i64 (14), (Value.slice (some ⟨1, 0, none⟩) 3 1)]), .int .i64 (4)], ⟨2, [(1, (ABlk.cellsT true [.int .i64 (4), .int .i64 (13), .int .i64 (22)] none)), (0, (ABlk.cellsT true [.int .i64 (9), .int .i64 (9), .int .i64 (9)] none))]⟩, (Value.tuple #[(Value.agg #[.int .i64 (0), .int .i64 (4), .int .i64 (9)]), .bool true]), []⟩
def m1x0e5 : MF := ⟨49, [(Value.agg #[.int .i64 (4), (Value.slice (some ⟨0, 0, none⟩) 3 1), .int .i64 (4), .int .i64 (3), .int .i64 (0), .int .i64 (4), .int .i64 (4), .int .i64 (14), (Value.slice (some ⟨1, 0, none⟩) 3 1)]), .int .i64 (27)], ⟨2, [(1, (ABlk.cellsT true [.int .i64 (4), .int .i64 (13), .int .i64 (22)] none)), (0, (ABlk.cellsT true [.int .i64 (9), .int .i64 (9), .int .i64 (9)] none))]⟩, (Value.tuple #[(Value.agg #[.int .i64 (-1), .int .i64 (0), .int .i64 (4)]), .bool true]), []⟩
def m1x0e6 : MF := ⟨49, [(Value.agg #[.int .i64 (4), (Value.slice (some ⟨0, 0, none⟩) 3 1), .int .i64 (4), .int .i64 (3), .int .i64 (0), .int .i64 (4), .int .i64 (4), .int .i64 (14), (Value.slice (some ⟨1, 0, none⟩) 3 1)]), .int .i64 (31)], ⟨2, [(1, (ABlk.cellsT true [.int .i64 (4), .int .i64 (13), .int .i64 (22)] none)), (0, (ABlk.cellsT true [.int .i64 (9), .int .i64 (9), .int .i64 (9)] none))]⟩, (Value.tuple #[(Value.agg #[.int .i64 (-2), .int .i64 (0), .int .i64 (3)]), .bool true]), []⟩
def m1x0e7 : MF := ⟨63, [(Value.agg #[.int .i64 (3), (Value.slice (some ⟨0, 0, none⟩) 1 1), .int .i64 (0), .int .i64 (1), .int .i64 (0), .int .i64 (4), .int .i64 (1), .int .i64 (2), (Value.slice (some ⟨1, 0, none⟩) 1 1)])], ⟨2, [(1, (ABlk.cellsT true [.int .i64 (1)] none)), (0, (ABlk.cellsT true [.int .i64 (3)] none))]⟩, .int .i64 (0), []⟩
def m1x0e8 : MF := ⟨49, [(Value.agg #[.int .i64 (4), (Value.slice (some ⟨0, 0, none⟩) 3 1), .int .i64 (4), .int .i64 (3), .int .i64 (0), .int .i64 (4), .int .i64 (4), .int .i64 (14), (Value.slice (some ⟨1, 0, none⟩) 3 1)]), .int .i64 (30)], ⟨2, [(1, (ABlk.cellsT true [.int .i64 (4), .int .i64 (13), .int .i64 (22)] none)), (0, (ABlk.cellsT true [.int .i64 (9), .int .i64 (9), .int .i64 (9)] none))]⟩, (Value.tuple #[(Value.agg #[.int .i64 (-1), .int .i64 (3), .int .i64 (4)]), .bool true]), []⟩
theorem m1x0e0_ok : mfB (evCall (tabT Try.prog) (tabF Try.prog) 300 kpT noH 60) m1x0e0 = true := by kernel_rfl
theorem m1x0e1_ok : mfB (evCall (tabT Try.prog) (tabF Try.prog) 300 kpT noH 60) m1x0e1 = true := by kernel_rfl
theorem m1x0e2_ok : mfB (evCall (tabT Try.prog) (tabF Try.prog) 300 kpT noH 60) m1x0e2 = true := by kernel_rfl
theorem m1x0e3_ok : mfB (evCall (tabT Try.prog) (tabF Try.prog) 300 kpT noH 60) m1x0e3 = true := by kernel_rfl
theorem m1x0e4_ok : mfB (evCall (tabT Try.prog) (tabF Try.prog) 300 kpT noH 60) m1x0e4 = true := by kernel_rfl
theorem m1x0e5_ok : mfB (evCall (tabT Try.prog) (tabF Try.prog) 300 kpT noH 60) m1x0e5 = true := by kernel_rfl
theorem m1x0e6_ok : mfB (evCall (tabT Try.prog) (tabF Try.prog) 300 kpT noH 60) m1x0e6 = true := by kernel_rfl
theorem m1x0e7_ok : mfB (evCall (tabT Try.prog) (tabF Try.prog) 300 kpT noH 60) m1x0e7 = true := by kernel_rfl
theorem m1x0e8_ok : mfB (evCall (tabT Try.prog) (tabF Try.prog) 300 kpT noH 60) m1x0e8 = true := by kernel_rfl
def m1x0L : List MF := [m1x0e0, m1x0e1, m1x0e2, m1x0e3, m1x0e4, m1x0e5, m1x0e6, m1x0e7, m1x0e8]
theorem m1x0L_ok : CallOK Try.prog (memoF m1x0L) := memoF_ok (evCall_sound (tabT_ok _) (tabF_ok _) mixed 300 kpT noH_ok 60) (by
  intro e he
  simp only [m1x0L, List.mem_cons, List.not_mem_nil, or_false] at he
  rcases he with rfl | rfl | rfl | rfl | rfl | rfl | rfl | rfl | rfl
  · exact mfB_ok m1x0e0_ok
  · exact mfB_ok m1x0e1_ok
  · exact mfB_ok m1x0e2_ok
  · exact mfB_ok m1x0e3_ok
  · exact mfB_ok m1x0e4_ok
  · exact mfB_ok m1x0e5_ok
  · exact mfB_ok m1x0e6_ok
  · exact mfB_ok m1x0e7_ok
  · exact mfB_ok m1x0e8_ok)
noncomputable def hm1 : Value → List Value → AH → Option (Value × AH) := memoF m1x0L
theorem hm1_ok : CallOK Try.prog hm1 := m1x0L_ok
def m2x0e0 : MF := ⟨64, [(Value.agg #[.int .i64 (4), (Value.slice (some ⟨0, 0, none⟩) 3 1), .int .i64 (4), .int .i64 (3), .int .i64 (0), .int .i64 (4), .int .i64 (4), .int .i64 (14), (Value.slice (some ⟨1, 0, none⟩) 3 1)]), (Value.agg #[.int .i64 (0), .bool false])], ⟨2, [(1, (ABlk.cellsT true [.int .i64 (4), .int .i64 (13), .int .i64 (22)] none)), (0, (ABlk.cellsT true [.int .i64 (9), .int .i64 (9), .int .i64 (9)] none))]⟩, (Value.tuple #[(Value.agg #[.int .i64 (0), .int .i64 (0), .int .i64 (9)]), .int .i64 (0)]), []⟩
def m2x0e1 : MF := ⟨64, [(Value.agg #[.int .i64 (4), (Value.slice (some ⟨0, 0, none⟩) 3 1), .int .i64 (4), .int .i64 (3), .int .i64 (0), .int .i64 (4), .int .i64 (4), .int .i64 (14), (Value.slice (some ⟨1, 0, none⟩) 3 1)]), (Value.agg #[.int .i64 (1), .bool false])], ⟨2, [(1, (ABlk.cellsT true [.int .i64 (4), .int .i64 (13), .int .i64 (22)] none)), (0, (ABlk.cellsT true [.int .i64 (9), .int .i64 (9), .int .i64 (9)] none))]⟩, (Value.tuple #[(Value.agg #[.int .i64 (0), .int .i64 (1), .int .i64 (9)]), .int .i64 (0)]), []⟩
def m2x0e2 : MF := ⟨64, [(Value.agg #[.int .i64 (4), (Value.slice (some ⟨0, 0, none⟩) 3 1), .int .i64 (4), .int .i64 (3), .int .i64 (0), .int .i64 (4), .int .i64 (4), .int .i64 (14), (Value.slice (some ⟨1, 0, none⟩) 3 1)]), (Value.agg #[.int .i64 (2), .bool false])], ⟨2, [(1, (ABlk.cellsT true [.int .i64 (4), .int .i64 (13), .int .i64 (22)] none)), (0, (ABlk.cellsT true [.int .i64 (9), .int .i64 (9), .int .i64 (9)] none))]⟩, (Value.tuple #[(Value.agg #[.int .i64 (0), .int .i64 (2), .int .i64 (9)]), .int .i64 (0)]), []⟩
def m2x0e3 : MF := ⟨64, [(Value.agg #[.int .i64 (4), (Value.slice (some ⟨0, 0, none⟩) 3 1), .int .i64 (4), .int .i64 (3), .int .i64 (0), .int .i64 (4), .int .i64 (4), .int .i64 (14), (Value.slice (some ⟨1, 0, none⟩) 3 1)]), (Value.agg #[.int .i64 (4), .bool true])], ⟨2, [(1, (ABlk.cellsT true [.int .i64 (4), .int .i64 (13), .int .i64 (22)] none)), (0, (ABlk.cellsT true [.int .i64 (9), .int .i64 (9), .int .i64 (9)] none))]⟩, (Value.tuple #[(Value.agg #[.int .i64 (0), .int .i64 (4), .int .i64 (9)]), .int .i64 (0)]), []⟩
def m2x0e4 : MF := ⟨64, [(Value.agg #[.int .i64 (4), (Value.slice (some ⟨0, 0, none⟩) 3 1), .int .i64 (4), .int .i64 (3), .int .i64 (0), .int .i64 (4), .int .i64 (4), .int .i64 (14), (Value.slice (some ⟨1, 0, none⟩) 3 1)]), (Value.agg #[.int .i64 (4), .bool false])], ⟨2, [(1, (ABlk.cellsT true [.int .i64 (4), .int .i64 (13), .int .i64 (22)] none)), (0, (ABlk.cellsT true [.int .i64 (9), .int .i64 (9), .int .i64 (9)] none))]⟩, (Value.tuple #[(Value.agg #[.int .i64 (0), .int .i64 (4), .int .i64 (9)]), .int .i64 (0)]), []⟩
def m2x0e5 : MF := ⟨64, [(Value.agg #[.int .i64 (4), (Value.slice (some ⟨0, 0, none⟩) 3 1), .int .i64 (4), .int .i64 (3), .int .i64 (0), .int .i64 (4), .int .i64 (4), .int .i64 (14), (Value.slice (some ⟨1, 0, none⟩) 3 1)]), (Value.agg #[.int .i64 (27), .bool false])], ⟨2, [(1, (ABlk.cellsT true [.int .i64 (4), .int .i64 (13), .int .i64 (22)] none)), (0, (ABlk.cellsT true [.int .i64 (9), .int .i64 (9), .int .i64 (9)] none))]⟩, (Value.tuple #[(Value.agg #[.int .i64 (-1), .int .i64 (0), .int .i64 (4)]), .int .i64 (0)]), []⟩
def m2x0e6 : MF := ⟨64, [(Value.agg #[.int .i64 (4), (Value.slice (some ⟨0, 0, none⟩) 3 1), .int .i64 (4), .int .i64 (3), .int .i64 (0), .int .i64 (4), .int .i64 (4), .int .i64 (14), (Value.slice (some ⟨1, 0, none⟩) 3 1)]), (Value.agg #[.int .i64 (31), .bool false])], ⟨2, [(1, (ABlk.cellsT true [.int .i64 (4), .int .i64 (13), .int .i64 (22)] none)), (0, (ABlk.cellsT true [.int .i64 (9), .int .i64 (9), .int .i64 (9)] none))]⟩, (Value.tuple #[(Value.agg #[.int .i64 (-2), .int .i64 (0), .int .i64 (3)]), .int .i64 (0)]), []⟩
def m2x0e7 : MF := ⟨83, [(Value.agg #[.int .i64 (3), (Value.slice (some ⟨0, 0, none⟩) 1 1), .int .i64 (0), .int .i64 (1), .int .i64 (0), .int .i64 (4), .int .i64 (1), .int .i64 (2), (Value.slice (some ⟨1, 0, none⟩) 1 1)]), (Value.slice (some ⟨2, 0, none⟩) 16 1)], ⟨3, [(2, (ABlk.cellsT true [.int .i64 (0), .int .i64 (1), .int .i64 (2), .int .i64 (3), .int .i64 (4), .int .i64 (5), .int .i64 (6), .int .i64 (7), .int .i64 (8), .int .i64 (9), .int .i64 (10), .int .i64 (11), .int .i64 (12), .int .i64 (13), .int .i64 (14), .int .i64 (15)] none)), (1, (ABlk.cellsT true [.int .i64 (1)] none)), (0, (ABlk.cellsT true [.int .i64 (3)] none))]⟩, .int .i64 (0), []⟩
def m2x0e8 : MF := ⟨38, [(Value.agg #[.int .i64 (4), (Value.slice (some ⟨0, 0, none⟩) 3 1), .int .i64 (4), .int .i64 (3), .int .i64 (0), .int .i64 (4), .int .i64 (4), .int .i64 (14), (Value.slice (some ⟨1, 0, none⟩) 3 1)])], ⟨2, [(1, (ABlk.cellsT true [.int .i64 (4), .int .i64 (13), .int .i64 (22)] none)), (0, (ABlk.cellsT true [.int .i64 (9), .int .i64 (9), .int .i64 (9)] none))]⟩, .int .i64 (136), []⟩
def m2x0e9 : MF := ⟨25, [(Value.agg #[.int .i64 (4), (Value.slice (some ⟨0, 0, none⟩) 3 1), .int .i64 (4), .int .i64 (3), .int .i64 (0), .int .i64 (4), .int .i64 (4), .int .i64 (14), (Value.slice (some ⟨1, 0, none⟩) 3 1)]), .int .i64 (30)], ⟨2, [(1, (ABlk.cellsT true [.int .i64 (4), .int .i64 (13), .int .i64 (22)] none)), (0, (ABlk.cellsT true [.int .i64 (9), .int .i64 (9), .int .i64 (9)] none))]⟩, .int .i64 (27), []⟩
def m2x0e10 : MF := ⟨38, [(Value.agg #[.int .i64 (3), (Value.slice (some ⟨0, 0, none⟩) 1 1), .int .i64 (0), .int .i64 (1), .int .i64 (0), .int .i64 (4), .int .i64 (1), .int .i64 (2), (Value.slice (some ⟨1, 0, none⟩) 1 1)])], ⟨2, [(1, (ABlk.cellsT true [.int .i64 (1)] none)), (0, (ABlk.cellsT true [.int .i64 (3)] none))]⟩, .int .i64 (16), []⟩
theorem m2x0e0_ok : mfB (evCall (tabT Try.prog) (tabF Try.prog) 300 kpT hm1 60) m2x0e0 = true := by kernel_rfl
theorem m2x0e1_ok : mfB (evCall (tabT Try.prog) (tabF Try.prog) 300 kpT hm1 60) m2x0e1 = true := by kernel_rfl
theorem m2x0e2_ok : mfB (evCall (tabT Try.prog) (tabF Try.prog) 300 kpT hm1 60) m2x0e2 = true := by kernel_rfl
theorem m2x0e3_ok : mfB (evCall (tabT Try.prog) (tabF Try.prog) 300 kpT hm1 60) m2x0e3 = true := by kernel_rfl
theorem m2x0e4_ok : mfB (evCall (tabT Try.prog) (tabF Try.prog) 300 kpT hm1 60) m2x0e4 = true := by kernel_rfl
theorem m2x0e5_ok : mfB (evCall (tabT Try.prog) (tabF Try.prog) 300 kpT hm1 60) m2x0e5 = true := by kernel_rfl
theorem m2x0e6_ok : mfB (evCall (tabT Try.prog) (tabF Try.prog) 300 kpT hm1 60) m2x0e6 = true := by kernel_rfl
theorem m2x0e7_ok : mfB (evCall (tabT Try.prog) (tabF Try.prog) 300 kpT hm1 60) m2x0e7 = true := by kernel_rfl
theorem m2x0e8_ok : mfB (evCall (tabT Try.prog) (tabF Try.prog) 300 kpT hm1 60) m2x0e8 = true := by kernel_rfl
theorem m2x0e9_ok : mfB (evCall (tabT Try.prog) (tabF Try.prog) 300 kpT hm1 60) m2x0e9 = true := by kernel_rfl
theorem m2x0e10_ok : mfB (evCall (tabT Try.prog) (tabF Try.prog) 300 kpT hm1 60) m2x0e10 = true := by kernel_rfl
def m2x0L : List MF := [m2x0e0, m2x0e1, m2x0e2, m2x0e3, m2x0e4, m2x0e5, m2x0e6, m2x0e7, m2x0e8, m2x0e9, m2x0e10]
theorem m2x0L_ok : CallOK Try.prog (memoF m2x0L) := memoF_ok (evCall_sound (tabT_ok _) (tabF_ok _) mixed 300 kpT hm1_ok 60) (by
  intro e he
  simp only [m2x0L, List.mem_cons, List.not_mem_nil, or_false] at he
  rcases he with rfl | rfl | rfl | rfl | rfl | rfl | rfl | rfl | rfl | rfl | rfl
  · exact mfB_ok m2x0e0_ok
  · exact mfB_ok m2x0e1_ok
  · exact mfB_ok m2x0e2_ok
  · exact mfB_ok m2x0e3_ok
  · exact mfB_ok m2x0e4_ok
  · exact mfB_ok m2x0e5_ok
  · exact mfB_ok m2x0e6_ok
  · exact mfB_ok m2x0e7_ok
  · exact mfB_ok m2x0e8_ok
  · exact mfB_ok m2x0e9_ok
  · exact mfB_ok m2x0e10_ok)
noncomputable def hm2 : Value → List Value → AH → Option (Value × AH) := orH (hm1) (memoF m2x0L)
theorem hm2_ok : CallOK Try.prog hm2 := orH_ok (hm1_ok) m2x0L_ok
def m3x0e0 : MF := ⟨28, [(Value.agg #[.int .i64 (4), (Value.slice (some ⟨0, 0, none⟩) 3 1), .int .i64 (4), .int .i64 (3), .int .i64 (0), .int .i64 (4), .int .i64 (4), .int .i64 (14), (Value.slice (some ⟨1, 0, none⟩) 3 1)]), (Value.slice (some ⟨2, 0, none⟩) 7 2)], ⟨3, [(2, (ABlk.cellsT true [.int .i64 (0), .bool false, .int .i64 (1), .bool false, .int .i64 (2), .bool false, .int .i64 (4), .bool true, .int .i64 (4), .bool false, .int .i64 (27), .bool false, .int .i64 (31), .bool false] none)), (1, (ABlk.cellsT true [.int .i64 (4), .int .i64 (13), .int .i64 (22)] none)), (0, (ABlk.cellsT true [.int .i64 (9), .int .i64 (9), .int .i64 (9)] none))]⟩, (Value.tuple #[(Value.string ⟨#[49, 50, 51, 109, 53, 77, 53, 109, 49, 119, 49, 100]⟩), .int .i64 (0)]), []⟩
def m3x0e1 : MF := ⟨33, [(Value.agg #[.int .i64 (3), (Value.slice (some ⟨0, 0, none⟩) 1 1), .int .i64 (0), .int .i64 (1), .int .i64 (0), .int .i64 (4), .int .i64 (1), .int .i64 (2), (Value.slice (some ⟨1, 0, none⟩) 1 1)]), (Value.slice (some ⟨2, 0, none⟩) 16 1), .int .i64 (14), .int .i64 (1)], ⟨3, [(2, (ABlk.cellsT true [.int .i64 (0), .int .i64 (1), .int .i64 (2), .int .i64 (3), .int .i64 (4), .int .i64 (5), .int .i64 (6), .int .i64 (7), .int .i64 (8), .int .i64 (9), .int .i64 (10), .int .i64 (11), .int .i64 (12), .int .i64 (13), .int .i64 (14), .int .i64 (15)] none)), (1, (ABlk.cellsT true [.int .i64 (1)] none)), (0, (ABlk.cellsT true [.int .i64 (3)] none))]⟩, (Value.tuple #[(Value.slice (some ⟨3, 0, none⟩) 3 1), (Value.slice (some ⟨4, 0, none⟩) 2 1), (Value.slice (some ⟨5, 0, none⟩) 2 1), .int .i64 (0)]), [(3, (ABlk.cellsT false [(Value.slice (some ⟨6, 0, none⟩) 4 1), (Value.slice (some ⟨7, 0, none⟩) 4 1), (Value.slice (some ⟨8, 0, none⟩) 4 1)] none)), (4, (ABlk.cellsT false [.int .i64 (10), .int .i64 (11)] none)), (5, (ABlk.cellsT false [.int .i64 (12), .int .i64 (13)] none)), (6, (ABlk.cellsT false [.int .i64 (6), .int .i64 (7), .int .i64 (8), .int .i64 (9)] none)), (7, (ABlk.cellsT false [.int .i64 (14), .int .i64 (15), .int .i64 (0), .int .i64 (1)] none)), (8, (ABlk.cellsT false [.int .i64 (2), .int .i64 (3), .int .i64 (4), .int .i64 (5)] none))]⟩
def m3x0e2 : MF := ⟨39, [(Value.agg #[.int .i64 (3), (Value.slice (some ⟨0, 0, none⟩) 1 1), .int .i64 (0), .int .i64 (1), .int .i64 (0), .int .i64 (4), .int .i64 (1), .int .i64 (2), (Value.slice (some ⟨1, 0, none⟩) 1 1)]), (Value.int IntKind.u64 (0))], ⟨2, [(1, (ABlk.cellsT true [.int .i64 (1)] none)), (0, (ABlk.cellsT true [.int .i64 (3)] none))]⟩, (Value.slice (some ⟨2, 0, none⟩) 16 1), [(2, (ABlk.cellsT false [.int .i64 (3), .int .i64 (7), .int .i64 (12), .int .i64 (10), .int .i64 (6), .int .i64 (1), .int .i64 (8), .int .i64 (0), .int .i64 (2), .int .i64 (4), .int .i64 (14), .int .i64 (5), .int .i64 (11), .int .i64 (13), .int .i64 (9), .int .i64 (15)] none))]⟩
theorem m3x0e0_ok : mfB (evCall (tabT Try.prog) (tabF Try.prog) 300 kpT hm2 60) m3x0e0 = true := by kernel_rfl
theorem m3x0e1_ok : mfB (evCall (tabT Try.prog) (tabF Try.prog) 300 kpT hm2 60) m3x0e1 = true := by kernel_rfl
theorem m3x0e2_ok : mfB (evCall (tabT Try.prog) (tabF Try.prog) 300 kpT hm2 60) m3x0e2 = true := by kernel_rfl
def m3x0L : List MF := [m3x0e0, m3x0e1, m3x0e2]
theorem m3x0L_ok : CallOK Try.prog (memoF m3x0L) := memoF_ok (evCall_sound (tabT_ok _) (tabF_ok _) mixed 300 kpT hm2_ok 60) (by
  intro e he
  simp only [m3x0L, List.mem_cons, List.not_mem_nil, or_false] at he
  rcases he with rfl | rfl | rfl
  · exact mfB_ok m3x0e0_ok
  · exact mfB_ok m3x0e1_ok
  · exact mfB_ok m3x0e2_ok)
noncomputable def hm3 : Value → List Value → AH → Option (Value × AH) := orH (hm2) (memoF m3x0L)
theorem hm3_ok : CallOK Try.prog hm3 := orH_ok (hm2_ok) m3x0L_ok
def m4x0e0 : MF := ⟨27, [], ⟨0, []⟩, .bool true, []⟩
theorem m4x0e0_ok : mfB (evCall (tabT Try.prog) (tabF Try.prog) 300 kpT hm3 60) m4x0e0 = true := by kernel_rfl
def m4x0L : List MF := [m4x0e0]
theorem m4x0L_ok : CallOK Try.prog (memoF m4x0L) := memoF_ok (evCall_sound (tabT_ok _) (tabF_ok _) mixed 300 kpT hm3_ok 60) (by
  intro e he
  simp only [m4x0L, List.mem_cons, List.not_mem_nil, or_false] at he
  rcases he with rfl
  · exact mfB_ok m4x0e0_ok)
noncomputable def hm4 : Value → List Value → AH → Option (Value × AH) := orH (hm3) (memoF m4x0L)
theorem hm4_ok : CallOK Try.prog hm4 := orH_ok (hm3_ok) m4x0L_ok

end Go.Proofs.Ytjginpeoblilpaa
