/-
  What is proved: the answers of tile.find at the kinds of the two sets of the examples.
-/
import Derived.Test.YtblbjdobhlgghaaGreatDoorSa
namespace Go.Proofs.YtblbjdobhlgghaaGreatDoor
open Go.RowKit

def mf0 : ME := ⟨125, [(setV 4 3 4 3 0 4 4 (14) 3), .int .i64 (0)], setH [9, 9, 9] [4, 13, 22], .tuple #[.agg #[.int .i64 (0), .int .i64 (0), .int .i64 (9)], .bool true]⟩
def mf1 : ME := ⟨125, [(setV 4 3 4 3 0 4 4 (14) 3), .int .i64 (1)], setH [9, 9, 9] [4, 13, 22], .tuple #[.agg #[.int .i64 (0), .int .i64 (1), .int .i64 (9)], .bool true]⟩
def mf2 : ME := ⟨125, [(setV 4 3 4 3 0 4 4 (14) 3), .int .i64 (2)], setH [9, 9, 9] [4, 13, 22], .tuple #[.agg #[.int .i64 (0), .int .i64 (2), .int .i64 (9)], .bool true]⟩
def mf3 : ME := ⟨125, [(setV 4 3 4 3 0 4 4 (14) 3), .int .i64 (3)], setH [9, 9, 9] [4, 13, 22], .tuple #[.agg #[.int .i64 (0), .int .i64 (3), .int .i64 (9)], .bool true]⟩
def mf4 : ME := ⟨125, [(setV 4 3 4 3 0 4 4 (14) 3), .int .i64 (4)], setH [9, 9, 9] [4, 13, 22], .tuple #[.agg #[.int .i64 (0), .int .i64 (4), .int .i64 (9)], .bool true]⟩
def mf5 : ME := ⟨125, [(setV 4 3 4 3 0 4 4 (14) 3), .int .i64 (5)], setH [9, 9, 9] [4, 13, 22], .tuple #[.agg #[.int .i64 (0), .int .i64 (5), .int .i64 (9)], .bool true]⟩
def mf6 : ME := ⟨125, [(setV 4 3 4 3 0 4 4 (14) 3), .int .i64 (6)], setH [9, 9, 9] [4, 13, 22], .tuple #[.agg #[.int .i64 (0), .int .i64 (6), .int .i64 (9)], .bool true]⟩
def mf7 : ME := ⟨125, [(setV 4 3 4 3 0 4 4 (14) 3), .int .i64 (7)], setH [9, 9, 9] [4, 13, 22], .tuple #[.agg #[.int .i64 (0), .int .i64 (7), .int .i64 (9)], .bool true]⟩
def mf8 : ME := ⟨125, [(setV 4 3 4 3 0 4 4 (14) 3), .int .i64 (8)], setH [9, 9, 9] [4, 13, 22], .tuple #[.agg #[.int .i64 (0), .int .i64 (8), .int .i64 (9)], .bool true]⟩
def mf9 : ME := ⟨125, [(setV 4 3 4 3 0 4 4 (14) 3), .int .i64 (9)], setH [9, 9, 9] [4, 13, 22], .tuple #[.agg #[.int .i64 (1), .int .i64 (0), .int .i64 (9)], .bool true]⟩
def mf10 : ME := ⟨125, [(setV 4 3 4 3 0 4 4 (14) 3), .int .i64 (10)], setH [9, 9, 9] [4, 13, 22], .tuple #[.agg #[.int .i64 (1), .int .i64 (1), .int .i64 (9)], .bool true]⟩
def mf11 : ME := ⟨125, [(setV 4 3 4 3 0 4 4 (14) 3), .int .i64 (11)], setH [9, 9, 9] [4, 13, 22], .tuple #[.agg #[.int .i64 (1), .int .i64 (2), .int .i64 (9)], .bool true]⟩
def mf12 : ME := ⟨125, [(setV 4 3 4 3 0 4 4 (14) 3), .int .i64 (12)], setH [9, 9, 9] [4, 13, 22], .tuple #[.agg #[.int .i64 (1), .int .i64 (3), .int .i64 (9)], .bool true]⟩
def mf13 : ME := ⟨125, [(setV 4 3 4 3 0 4 4 (14) 3), .int .i64 (13)], setH [9, 9, 9] [4, 13, 22], .tuple #[.agg #[.int .i64 (1), .int .i64 (4), .int .i64 (9)], .bool true]⟩
def mf14 : ME := ⟨125, [(setV 4 3 4 3 0 4 4 (14) 3), .int .i64 (14)], setH [9, 9, 9] [4, 13, 22], .tuple #[.agg #[.int .i64 (1), .int .i64 (5), .int .i64 (9)], .bool true]⟩
def mf15 : ME := ⟨125, [(setV 4 3 4 3 0 4 4 (14) 3), .int .i64 (15)], setH [9, 9, 9] [4, 13, 22], .tuple #[.agg #[.int .i64 (1), .int .i64 (6), .int .i64 (9)], .bool true]⟩
def mf16 : ME := ⟨125, [(setV 4 3 4 3 0 4 4 (14) 3), .int .i64 (16)], setH [9, 9, 9] [4, 13, 22], .tuple #[.agg #[.int .i64 (1), .int .i64 (7), .int .i64 (9)], .bool true]⟩
def mf17 : ME := ⟨125, [(setV 4 3 4 3 0 4 4 (14) 3), .int .i64 (17)], setH [9, 9, 9] [4, 13, 22], .tuple #[.agg #[.int .i64 (1), .int .i64 (8), .int .i64 (9)], .bool true]⟩
def mf18 : ME := ⟨125, [(setV 4 3 4 3 0 4 4 (14) 3), .int .i64 (18)], setH [9, 9, 9] [4, 13, 22], .tuple #[.agg #[.int .i64 (2), .int .i64 (0), .int .i64 (9)], .bool true]⟩
def mf19 : ME := ⟨125, [(setV 4 3 4 3 0 4 4 (14) 3), .int .i64 (19)], setH [9, 9, 9] [4, 13, 22], .tuple #[.agg #[.int .i64 (2), .int .i64 (1), .int .i64 (9)], .bool true]⟩
def mf20 : ME := ⟨125, [(setV 4 3 4 3 0 4 4 (14) 3), .int .i64 (20)], setH [9, 9, 9] [4, 13, 22], .tuple #[.agg #[.int .i64 (2), .int .i64 (2), .int .i64 (9)], .bool true]⟩
def mf21 : ME := ⟨125, [(setV 4 3 4 3 0 4 4 (14) 3), .int .i64 (21)], setH [9, 9, 9] [4, 13, 22], .tuple #[.agg #[.int .i64 (2), .int .i64 (3), .int .i64 (9)], .bool true]⟩
def mf22 : ME := ⟨125, [(setV 4 3 4 3 0 4 4 (14) 3), .int .i64 (22)], setH [9, 9, 9] [4, 13, 22], .tuple #[.agg #[.int .i64 (2), .int .i64 (4), .int .i64 (9)], .bool true]⟩
def mf23 : ME := ⟨125, [(setV 4 3 4 3 0 4 4 (14) 3), .int .i64 (23)], setH [9, 9, 9] [4, 13, 22], .tuple #[.agg #[.int .i64 (2), .int .i64 (5), .int .i64 (9)], .bool true]⟩
def mf24 : ME := ⟨125, [(setV 4 3 4 3 0 4 4 (14) 3), .int .i64 (24)], setH [9, 9, 9] [4, 13, 22], .tuple #[.agg #[.int .i64 (2), .int .i64 (6), .int .i64 (9)], .bool true]⟩
def mf25 : ME := ⟨125, [(setV 4 3 4 3 0 4 4 (14) 3), .int .i64 (25)], setH [9, 9, 9] [4, 13, 22], .tuple #[.agg #[.int .i64 (2), .int .i64 (7), .int .i64 (9)], .bool true]⟩
def mf26 : ME := ⟨125, [(setV 4 3 4 3 0 4 4 (14) 3), .int .i64 (26)], setH [9, 9, 9] [4, 13, 22], .tuple #[.agg #[.int .i64 (2), .int .i64 (8), .int .i64 (9)], .bool true]⟩
def mf27 : ME := ⟨125, [(setV 4 3 4 3 0 4 4 (14) 3), .int .i64 (27)], setH [9, 9, 9] [4, 13, 22], .tuple #[.agg #[.int .i64 (-1), .int .i64 (0), .int .i64 (4)], .bool true]⟩
def mf28 : ME := ⟨125, [(setV 4 3 4 3 0 4 4 (14) 3), .int .i64 (28)], setH [9, 9, 9] [4, 13, 22], .tuple #[.agg #[.int .i64 (-1), .int .i64 (1), .int .i64 (4)], .bool true]⟩
def mf29 : ME := ⟨125, [(setV 4 3 4 3 0 4 4 (14) 3), .int .i64 (29)], setH [9, 9, 9] [4, 13, 22], .tuple #[.agg #[.int .i64 (-1), .int .i64 (2), .int .i64 (4)], .bool true]⟩
def mf30 : ME := ⟨125, [(setV 4 3 4 3 0 4 4 (14) 3), .int .i64 (30)], setH [9, 9, 9] [4, 13, 22], .tuple #[.agg #[.int .i64 (-1), .int .i64 (3), .int .i64 (4)], .bool true]⟩
def mf31 : ME := ⟨125, [(setV 4 3 4 3 0 4 4 (14) 3), .int .i64 (31)], setH [9, 9, 9] [4, 13, 22], .tuple #[.agg #[.int .i64 (-2), .int .i64 (0), .int .i64 (3)], .bool true]⟩
def mf32 : ME := ⟨125, [(setV 4 3 4 3 0 4 4 (14) 3), .int .i64 (32)], setH [9, 9, 9] [4, 13, 22], .tuple #[.agg #[.int .i64 (-2), .int .i64 (1), .int .i64 (3)], .bool true]⟩
def mf33 : ME := ⟨125, [(setV 4 3 4 3 0 4 4 (14) 3), .int .i64 (33)], setH [9, 9, 9] [4, 13, 22], .tuple #[.agg #[.int .i64 (-2), .int .i64 (2), .int .i64 (3)], .bool true]⟩
def mf34 : ME := ⟨125, [(setV 3 1 0 1 0 4 1 (2) 1), .int .i64 (0)], setH [3] [1], .tuple #[.agg #[.int .i64 (0), .int .i64 (0), .int .i64 (3)], .bool true]⟩
def mf35 : ME := ⟨125, [(setV 3 1 0 1 0 4 1 (2) 1), .int .i64 (1)], setH [3] [1], .tuple #[.agg #[.int .i64 (0), .int .i64 (1), .int .i64 (3)], .bool true]⟩
def mf36 : ME := ⟨125, [(setV 3 1 0 1 0 4 1 (2) 1), .int .i64 (2)], setH [3] [1], .tuple #[.agg #[.int .i64 (0), .int .i64 (2), .int .i64 (3)], .bool true]⟩
def mf37 : ME := ⟨125, [(setV 3 1 0 1 0 4 1 (2) 1), .int .i64 (3)], setH [3] [1], .tuple #[.agg #[.int .i64 (-2), .int .i64 (0), .int .i64 (1)], .bool true]⟩
def mfL : List ME := [mf0, mf1, mf2, mf3, mf4, mf5, mf6, mf7, mf8, mf9, mf10, mf11, mf12, mf13, mf14, mf15, mf16, mf17, mf18, mf19, mf20, mf21, mf22, mf23, mf24, mf25, mf26, mf27, mf28, mf29, mf30, mf31, mf32, mf33, mf34, mf35, mf36, mf37]
theorem mf0_ok : meB (evCall (tabT Tryz.prog) (tabF Tryz.prog) 300 kpT (memoH mcL) 9) mf0 = true := by kernel_rfl
theorem mf1_ok : meB (evCall (tabT Tryz.prog) (tabF Tryz.prog) 300 kpT (memoH mcL) 9) mf1 = true := by kernel_rfl
theorem mf2_ok : meB (evCall (tabT Tryz.prog) (tabF Tryz.prog) 300 kpT (memoH mcL) 9) mf2 = true := by kernel_rfl
theorem mf3_ok : meB (evCall (tabT Tryz.prog) (tabF Tryz.prog) 300 kpT (memoH mcL) 9) mf3 = true := by kernel_rfl
theorem mf4_ok : meB (evCall (tabT Tryz.prog) (tabF Tryz.prog) 300 kpT (memoH mcL) 9) mf4 = true := by kernel_rfl
theorem mf5_ok : meB (evCall (tabT Tryz.prog) (tabF Tryz.prog) 300 kpT (memoH mcL) 9) mf5 = true := by kernel_rfl
theorem mf6_ok : meB (evCall (tabT Tryz.prog) (tabF Tryz.prog) 300 kpT (memoH mcL) 9) mf6 = true := by kernel_rfl
theorem mf7_ok : meB (evCall (tabT Tryz.prog) (tabF Tryz.prog) 300 kpT (memoH mcL) 9) mf7 = true := by kernel_rfl
theorem mf8_ok : meB (evCall (tabT Tryz.prog) (tabF Tryz.prog) 300 kpT (memoH mcL) 9) mf8 = true := by kernel_rfl
theorem mf9_ok : meB (evCall (tabT Tryz.prog) (tabF Tryz.prog) 300 kpT (memoH mcL) 9) mf9 = true := by kernel_rfl
theorem mf10_ok : meB (evCall (tabT Tryz.prog) (tabF Tryz.prog) 300 kpT (memoH mcL) 9) mf10 = true := by kernel_rfl
theorem mf11_ok : meB (evCall (tabT Tryz.prog) (tabF Tryz.prog) 300 kpT (memoH mcL) 9) mf11 = true := by kernel_rfl
theorem mf12_ok : meB (evCall (tabT Tryz.prog) (tabF Tryz.prog) 300 kpT (memoH mcL) 9) mf12 = true := by kernel_rfl
theorem mf13_ok : meB (evCall (tabT Tryz.prog) (tabF Tryz.prog) 300 kpT (memoH mcL) 9) mf13 = true := by kernel_rfl
theorem mf14_ok : meB (evCall (tabT Tryz.prog) (tabF Tryz.prog) 300 kpT (memoH mcL) 9) mf14 = true := by kernel_rfl
theorem mf15_ok : meB (evCall (tabT Tryz.prog) (tabF Tryz.prog) 300 kpT (memoH mcL) 9) mf15 = true := by kernel_rfl
theorem mf16_ok : meB (evCall (tabT Tryz.prog) (tabF Tryz.prog) 300 kpT (memoH mcL) 9) mf16 = true := by kernel_rfl
theorem mf17_ok : meB (evCall (tabT Tryz.prog) (tabF Tryz.prog) 300 kpT (memoH mcL) 9) mf17 = true := by kernel_rfl
theorem mf18_ok : meB (evCall (tabT Tryz.prog) (tabF Tryz.prog) 300 kpT (memoH mcL) 9) mf18 = true := by kernel_rfl
theorem mf19_ok : meB (evCall (tabT Tryz.prog) (tabF Tryz.prog) 300 kpT (memoH mcL) 9) mf19 = true := by kernel_rfl
theorem mf20_ok : meB (evCall (tabT Tryz.prog) (tabF Tryz.prog) 300 kpT (memoH mcL) 9) mf20 = true := by kernel_rfl
theorem mf21_ok : meB (evCall (tabT Tryz.prog) (tabF Tryz.prog) 300 kpT (memoH mcL) 9) mf21 = true := by kernel_rfl
theorem mf22_ok : meB (evCall (tabT Tryz.prog) (tabF Tryz.prog) 300 kpT (memoH mcL) 9) mf22 = true := by kernel_rfl
theorem mf23_ok : meB (evCall (tabT Tryz.prog) (tabF Tryz.prog) 300 kpT (memoH mcL) 9) mf23 = true := by kernel_rfl
theorem mf24_ok : meB (evCall (tabT Tryz.prog) (tabF Tryz.prog) 300 kpT (memoH mcL) 9) mf24 = true := by kernel_rfl
theorem mf25_ok : meB (evCall (tabT Tryz.prog) (tabF Tryz.prog) 300 kpT (memoH mcL) 9) mf25 = true := by kernel_rfl
theorem mf26_ok : meB (evCall (tabT Tryz.prog) (tabF Tryz.prog) 300 kpT (memoH mcL) 9) mf26 = true := by kernel_rfl
theorem mf27_ok : meB (evCall (tabT Tryz.prog) (tabF Tryz.prog) 300 kpT (memoH mcL) 9) mf27 = true := by kernel_rfl
theorem mf28_ok : meB (evCall (tabT Tryz.prog) (tabF Tryz.prog) 300 kpT (memoH mcL) 9) mf28 = true := by kernel_rfl
theorem mf29_ok : meB (evCall (tabT Tryz.prog) (tabF Tryz.prog) 300 kpT (memoH mcL) 9) mf29 = true := by kernel_rfl
theorem mf30_ok : meB (evCall (tabT Tryz.prog) (tabF Tryz.prog) 300 kpT (memoH mcL) 9) mf30 = true := by kernel_rfl
theorem mf31_ok : meB (evCall (tabT Tryz.prog) (tabF Tryz.prog) 300 kpT (memoH mcL) 9) mf31 = true := by kernel_rfl
theorem mf32_ok : meB (evCall (tabT Tryz.prog) (tabF Tryz.prog) 300 kpT (memoH mcL) 9) mf32 = true := by kernel_rfl
theorem mf33_ok : meB (evCall (tabT Tryz.prog) (tabF Tryz.prog) 300 kpT (memoH mcL) 9) mf33 = true := by kernel_rfl
theorem mf34_ok : meB (evCall (tabT Tryz.prog) (tabF Tryz.prog) 300 kpT (memoH mcL) 9) mf34 = true := by kernel_rfl
theorem mf35_ok : meB (evCall (tabT Tryz.prog) (tabF Tryz.prog) 300 kpT (memoH mcL) 9) mf35 = true := by kernel_rfl
theorem mf36_ok : meB (evCall (tabT Tryz.prog) (tabF Tryz.prog) 300 kpT (memoH mcL) 9) mf36 = true := by kernel_rfl
theorem mf37_ok : meB (evCall (tabT Tryz.prog) (tabF Tryz.prog) 300 kpT (memoH mcL) 9) mf37 = true := by kernel_rfl
theorem mfL_ok : CallOK Tryz.prog (memoH mfL) := memoH_ok (evCall_sound (tabT_ok _) (tabF_ok _) mixed 300 kpT mcL_ok 9) (by
  intro e he
  simp only [mfL, List.mem_cons, List.not_mem_nil, or_false] at he
  rcases he with rfl | rfl | rfl | rfl | rfl | rfl | rfl | rfl | rfl | rfl | rfl | rfl | rfl | rfl | rfl | rfl | rfl | rfl | rfl | rfl | rfl | rfl | rfl | rfl | rfl | rfl | rfl | rfl | rfl | rfl | rfl | rfl | rfl | rfl | rfl | rfl | rfl | rfl
  · exact meB_ok mf0_ok
  · exact meB_ok mf1_ok
  · exact meB_ok mf2_ok
  · exact meB_ok mf3_ok
  · exact meB_ok mf4_ok
  · exact meB_ok mf5_ok
  · exact meB_ok mf6_ok
  · exact meB_ok mf7_ok
  · exact meB_ok mf8_ok
  · exact meB_ok mf9_ok
  · exact meB_ok mf10_ok
  · exact meB_ok mf11_ok
  · exact meB_ok mf12_ok
  · exact meB_ok mf13_ok
  · exact meB_ok mf14_ok
  · exact meB_ok mf15_ok
  · exact meB_ok mf16_ok
  · exact meB_ok mf17_ok
  · exact meB_ok mf18_ok
  · exact meB_ok mf19_ok
  · exact meB_ok mf20_ok
  · exact meB_ok mf21_ok
  · exact meB_ok mf22_ok
  · exact meB_ok mf23_ok
  · exact meB_ok mf24_ok
  · exact meB_ok mf25_ok
  · exact meB_ok mf26_ok
  · exact meB_ok mf27_ok
  · exact meB_ok mf28_ok
  · exact meB_ok mf29_ok
  · exact meB_ok mf30_ok
  · exact meB_ok mf31_ok
  · exact meB_ok mf32_ok
  · exact meB_ok mf33_ok
  · exact meB_ok mf34_ok
  · exact meB_ok mf35_ok
  · exact meB_ok mf36_ok
  · exact meB_ok mf37_ok)

end Go.Proofs.YtblbjdobhlgghaaGreatDoor
