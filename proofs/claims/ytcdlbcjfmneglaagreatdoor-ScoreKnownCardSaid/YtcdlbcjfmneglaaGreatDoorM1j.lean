/-
  What is proved: what functions answer for examples.
-/
import Derived.Test.YtcdlbcjfmneglaaGreatDoorEvR
import Derived.Test.YtcdlbcjfmneglaaGreatDoorFa
namespace Go.Proofs.YtcdlbcjfmneglaaGreatDoor
open Go.RowKit

def m1x0e0 : MF := ⟨66, [(Value.agg #[.int .i64 (3), (Value.slice (some ⟨0, 0, none⟩) 1 1), .int .i64 (0), .int .i64 (1), .int .i64 (0), .int .i64 (4), .int .i64 (1), .int .i64 (2), (Value.slice (some ⟨1, 0, none⟩) 1 1)])], ⟨2, [(1, (ABlk.cellsT true [.int .i64 (1)] none)), (0, (ABlk.cellsT true [.int .i64 (3)] none))]⟩, .int .i64 (0), []⟩
def m1x0e1 : MF := ⟨66, [(Value.agg #[.int .i64 (4), (Value.slice (some ⟨0, 0, none⟩) 1 1), .int .i64 (0), .int .i64 (1), .int .i64 (0), .int .i64 (4), .int .i64 (1), .int .i64 (2), (Value.slice (some ⟨1, 0, none⟩) 1 1)])], ⟨2, [(1, (ABlk.cellsT true [.int .i64 (1)] none)), (0, (ABlk.cellsT true [.int .i64 (4)] none))]⟩, .int .i64 (0), []⟩
def m1x0e2 : MF := ⟨181, [(Value.agg #[.int .i64 (3), (Value.slice (some ⟨0, 0, none⟩) 1 1), .int .i64 (0), .int .i64 (1), .int .i64 (0), .int .i64 (4), .int .i64 (1), .int .i64 (2), (Value.slice (some ⟨1, 0, none⟩) 1 1)]), .int .i64 (0)], ⟨2, [(1, (ABlk.cellsT true [.int .i64 (1)] none)), (0, (ABlk.cellsT true [.int .i64 (3)] none))]⟩, (Value.tuple #[(Value.agg #[.int .i64 (0), .int .i64 (0), .int .i64 (3)]), .bool true]), []⟩
def m1x0e3 : MF := ⟨181, [(Value.agg #[.int .i64 (3), (Value.slice (some ⟨0, 0, none⟩) 1 1), .int .i64 (0), .int .i64 (1), .int .i64 (0), .int .i64 (4), .int .i64 (1), .int .i64 (2), (Value.slice (some ⟨1, 0, none⟩) 1 1)]), .int .i64 (1)], ⟨2, [(1, (ABlk.cellsT true [.int .i64 (1)] none)), (0, (ABlk.cellsT true [.int .i64 (3)] none))]⟩, (Value.tuple #[(Value.agg #[.int .i64 (0), .int .i64 (1), .int .i64 (3)]), .bool true]), []⟩
def m1x0e4 : MF := ⟨181, [(Value.agg #[.int .i64 (3), (Value.slice (some ⟨0, 0, none⟩) 1 1), .int .i64 (0), .int .i64 (1), .int .i64 (0), .int .i64 (4), .int .i64 (1), .int .i64 (2), (Value.slice (some ⟨1, 0, none⟩) 1 1)]), .int .i64 (2)], ⟨2, [(1, (ABlk.cellsT true [.int .i64 (1)] none)), (0, (ABlk.cellsT true [.int .i64 (3)] none))]⟩, (Value.tuple #[(Value.agg #[.int .i64 (0), .int .i64 (2), .int .i64 (3)]), .bool true]), []⟩
def m1x0e5 : MF := ⟨181, [(Value.agg #[.int .i64 (3), (Value.slice (some ⟨0, 0, none⟩) 1 1), .int .i64 (0), .int .i64 (1), .int .i64 (0), .int .i64 (4), .int .i64 (1), .int .i64 (2), (Value.slice (some ⟨1, 0, none⟩) 1 1)]), .int .i64 (3)], ⟨2, [(1, (ABlk.cellsT true [.int .i64 (1)] none)), (0, (ABlk.cellsT true [.int .i64 (3)] none))]⟩, (Value.tuple #[(Value.agg #[.int .i64 (-2), .int .i64 (0), .int .i64 (1)]), .bool true]), []⟩
def m1x0e6 : MF := ⟨66, [(Value.agg #[.int .i64 (4), (Value.slice (some ⟨0, 0, none⟩) 1 1), .int .i64 (0), .int .i64 (1), .int .i64 (0), .int .i64 (4), .int .i64 (2), .int .i64 (2), (Value.slice (some ⟨1, 0, none⟩) 1 1)])], ⟨2, [(1, (ABlk.cellsT true [.int .i64 (1)] none)), (0, (ABlk.cellsT true [.int .i64 (9)] none))]⟩, .int .i64 (0), []⟩
theorem m1x0e0_ok : mfB (evCall (tabT Tryz.prog) (tabF Tryz.prog) 300 kpT noH 60) m1x0e0 = true := by kernel_rfl
theorem m1x0e1_ok : mfB (evCall (tabT Tryz.prog) (tabF Tryz.prog) 300 kpT noH 60) m1x0e1 = true := by kernel_rfl
theorem m1x0e2_ok : mfB (evCall (tabT Tryz.prog) (tabF Tryz.prog) 300 kpT noH 60) m1x0e2 = true := by kernel_rfl
theorem m1x0e3_ok : mfB (evCall (tabT Tryz.prog) (tabF Tryz.prog) 300 kpT noH 60) m1x0e3 = true := by kernel_rfl
theorem m1x0e4_ok : mfB (evCall (tabT Tryz.prog) (tabF Tryz.prog) 300 kpT noH 60) m1x0e4 = true := by kernel_rfl
theorem m1x0e5_ok : mfB (evCall (tabT Tryz.prog) (tabF Tryz.prog) 300 kpT noH 60) m1x0e5 = true := by kernel_rfl
theorem m1x0e6_ok : mfB (evCall (tabT Tryz.prog) (tabF Tryz.prog) 300 kpT noH 60) m1x0e6 = true := by kernel_rfl
def m1x0L : List MF := [m1x0e0, m1x0e1, m1x0e2, m1x0e3, m1x0e4, m1x0e5, m1x0e6]
theorem m1x0L_ok : CallOK Tryz.prog (memoF m1x0L) := memoF_ok (evCall_sound (tabT_ok _) (tabF_ok _) mixed 300 kpT noH_ok 60) (by
  intro e he
  simp only [m1x0L, List.mem_cons, List.not_mem_nil, or_false] at he
  rcases he with rfl | rfl | rfl | rfl | rfl | rfl | rfl
  · exact mfB_ok m1x0e0_ok
  · exact mfB_ok m1x0e1_ok
  · exact mfB_ok m1x0e2_ok
  · exact mfB_ok m1x0e3_ok
  · exact mfB_ok m1x0e4_ok
  · exact mfB_ok m1x0e5_ok
  · exact mfB_ok m1x0e6_ok)
noncomputable def hm1 : Value → List Value → AH → Option (Value × AH) := memoF m1x0L
theorem hm1_ok : CallOK Tryz.prog hm1 := m1x0L_ok

end Go.Proofs.YtcdlbcjfmneglaaGreatDoor
