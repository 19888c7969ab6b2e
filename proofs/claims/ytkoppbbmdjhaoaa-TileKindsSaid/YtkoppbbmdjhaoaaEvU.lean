/-
  What is proved: the answers of tile.find at the kinds of the chapter's examples, as the abstract run has them.
-/
import Derived.Test.YtkoppbbmdjhaoaaEvT
namespace Go.Proofs.Ytkoppbbmdjhaoaa
open Go.RowKit

def mf0 : ME := ⟨84, [(setV 4 3 4 3 0 4 4 (14) 3), .int .i64 0], setH [9, 9, 9] [4, 13, 22], .tuple #[.agg #[.int .i64 (0), .int .i64 0, .int .i64 9], .bool true]⟩
def mf1 : ME := ⟨84, [(setV 4 3 4 3 0 4 4 (14) 3), .int .i64 1], setH [9, 9, 9] [4, 13, 22], .tuple #[.agg #[.int .i64 (0), .int .i64 1, .int .i64 9], .bool true]⟩
def mf2 : ME := ⟨84, [(setV 4 3 4 3 0 4 4 (14) 3), .int .i64 2], setH [9, 9, 9] [4, 13, 22], .tuple #[.agg #[.int .i64 (0), .int .i64 2, .int .i64 9], .bool true]⟩
def mf3 : ME := ⟨84, [(setV 4 3 4 3 0 4 4 (14) 3), .int .i64 4], setH [9, 9, 9] [4, 13, 22], .tuple #[.agg #[.int .i64 (0), .int .i64 4, .int .i64 9], .bool true]⟩
def mf4 : ME := ⟨84, [(setV 4 3 4 3 0 4 4 (14) 3), .int .i64 6], setH [9, 9, 9] [4, 13, 22], .tuple #[.agg #[.int .i64 (0), .int .i64 6, .int .i64 9], .bool true]⟩
def mf5 : ME := ⟨84, [(setV 4 3 4 3 0 4 4 (14) 3), .int .i64 7], setH [9, 9, 9] [4, 13, 22], .tuple #[.agg #[.int .i64 (0), .int .i64 7, .int .i64 9], .bool true]⟩
def mf6 : ME := ⟨84, [(setV 4 3 4 3 0 4 4 (14) 3), .int .i64 8], setH [9, 9, 9] [4, 13, 22], .tuple #[.agg #[.int .i64 (0), .int .i64 8, .int .i64 9], .bool true]⟩
def mf7 : ME := ⟨84, [(setV 4 3 4 3 0 4 4 (14) 3), .int .i64 10], setH [9, 9, 9] [4, 13, 22], .tuple #[.agg #[.int .i64 (1), .int .i64 1, .int .i64 9], .bool true]⟩
def mf8 : ME := ⟨84, [(setV 4 3 4 3 0 4 4 (14) 3), .int .i64 13], setH [9, 9, 9] [4, 13, 22], .tuple #[.agg #[.int .i64 (1), .int .i64 4, .int .i64 9], .bool true]⟩
def mf9 : ME := ⟨84, [(setV 4 3 4 3 0 4 4 (14) 3), .int .i64 27], setH [9, 9, 9] [4, 13, 22], .tuple #[.agg #[.int .i64 (-1), .int .i64 0, .int .i64 4], .bool true]⟩
def mf10 : ME := ⟨84, [(setV 4 3 4 3 0 4 4 (14) 3), .int .i64 30], setH [9, 9, 9] [4, 13, 22], .tuple #[.agg #[.int .i64 (-1), .int .i64 3, .int .i64 4], .bool true]⟩
def mf11 : ME := ⟨84, [(setV 4 3 4 3 0 4 4 (14) 3), .int .i64 31], setH [9, 9, 9] [4, 13, 22], .tuple #[.agg #[.int .i64 (-2), .int .i64 0, .int .i64 3], .bool true]⟩
def mf12 : ME := ⟨84, [(setV 4 3 4 3 0 4 4 (14) 3), .int .i64 33], setH [9, 9, 9] [4, 13, 22], .tuple #[.agg #[.int .i64 (-2), .int .i64 2, .int .i64 3], .bool true]⟩
def mf13 : ME := ⟨84, [(setV 4 3 4 3 0 4 4 (14) 3), .int .i64 34], setH [9, 9, 9] [4, 13, 22], .tuple #[.agg #[.int .i64 0, .int .i64 0, .int .i64 0], .bool false]⟩
def mf14 : ME := ⟨84, [(setV 4 3 4 3 0 4 4 (14) 3), .int .i64 3], setH [9, 9, 9] [4, 13, 22], .tuple #[.agg #[.int .i64 (0), .int .i64 3, .int .i64 9], .bool true]⟩
def mf15 : ME := ⟨84, [(setV 4 3 4 3 0 4 4 (14) 3), .int .i64 5], setH [9, 9, 9] [4, 13, 22], .tuple #[.agg #[.int .i64 (0), .int .i64 5, .int .i64 9], .bool true]⟩
def mf16 : ME := ⟨84, [(setV 4 3 4 3 0 4 4 (14) 3), .int .i64 9], setH [9, 9, 9] [4, 13, 22], .tuple #[.agg #[.int .i64 (1), .int .i64 0, .int .i64 9], .bool true]⟩
def mf17 : ME := ⟨84, [(setV 3 1 0 1 0 4 1 (2) 1), .int .i64 0], setH [3] [1], .tuple #[.agg #[.int .i64 (0), .int .i64 0, .int .i64 3], .bool true]⟩
def mf18 : ME := ⟨84, [(setV 3 1 0 1 0 4 1 (2) 1), .int .i64 1], setH [3] [1], .tuple #[.agg #[.int .i64 (0), .int .i64 1, .int .i64 3], .bool true]⟩
def mf19 : ME := ⟨84, [(setV 3 1 0 1 0 4 1 (2) 1), .int .i64 2], setH [3] [1], .tuple #[.agg #[.int .i64 (0), .int .i64 2, .int .i64 3], .bool true]⟩
def mf20 : ME := ⟨84, [(setV 3 1 0 1 0 4 1 (2) 1), .int .i64 3], setH [3] [1], .tuple #[.agg #[.int .i64 (-2), .int .i64 0, .int .i64 1], .bool true]⟩
def memF : List ME := [mf0, mf1, mf2, mf3, mf4, mf5, mf6, mf7, mf8, mf9, mf10, mf11, mf12, mf13, mf14, mf15, mf16, mf17, mf18, mf19, mf20]
theorem mf0_ok : meB (evCall (tabT Try.prog) (tabF Try.prog) 300 kpT (memoH memC) 9) mf0 = true := by kernel_rfl
theorem mf1_ok : meB (evCall (tabT Try.prog) (tabF Try.prog) 300 kpT (memoH memC) 9) mf1 = true := by kernel_rfl
theorem mf2_ok : meB (evCall (tabT Try.prog) (tabF Try.prog) 300 kpT (memoH memC) 9) mf2 = true := by kernel_rfl
theorem mf3_ok : meB (evCall (tabT Try.prog) (tabF Try.prog) 300 kpT (memoH memC) 9) mf3 = true := by kernel_rfl
theorem mf4_ok : meB (evCall (tabT Try.prog) (tabF Try.prog) 300 kpT (memoH memC) 9) mf4 = true := by kernel_rfl
theorem mf5_ok : meB (evCall (tabT Try.prog) (tabF Try.prog) 300 kpT (memoH memC) 9) mf5 = true := by kernel_rfl
theorem mf6_ok : meB (evCall (tabT Try.prog) (tabF Try.prog) 300 kpT (memoH memC) 9) mf6 = true := by kernel_rfl
theorem mf7_ok : meB (evCall (tabT Try.prog) (tabF Try.prog) 300 kpT (memoH memC) 9) mf7 = true := by kernel_rfl
theorem mf8_ok : meB (evCall (tabT Try.prog) (tabF Try.prog) 300 kpT (memoH memC) 9) mf8 = true := by kernel_rfl
theorem mf9_ok : meB (evCall (tabT Try.prog) (tabF Try.prog) 300 kpT (memoH memC) 9) mf9 = true := by kernel_rfl
theorem mf10_ok : meB (evCall (tabT Try.prog) (tabF Try.prog) 300 kpT (memoH memC) 9) mf10 = true := by kernel_rfl
theorem mf11_ok : meB (evCall (tabT Try.prog) (tabF Try.prog) 300 kpT (memoH memC) 9) mf11 = true := by kernel_rfl
theorem mf12_ok : meB (evCall (tabT Try.prog) (tabF Try.prog) 300 kpT (memoH memC) 9) mf12 = true := by kernel_rfl
theorem mf13_ok : meB (evCall (tabT Try.prog) (tabF Try.prog) 300 kpT (memoH memC) 9) mf13 = true := by kernel_rfl
theorem mf14_ok : meB (evCall (tabT Try.prog) (tabF Try.prog) 300 kpT (memoH memC) 9) mf14 = true := by kernel_rfl
theorem mf15_ok : meB (evCall (tabT Try.prog) (tabF Try.prog) 300 kpT (memoH memC) 9) mf15 = true := by kernel_rfl
theorem mf16_ok : meB (evCall (tabT Try.prog) (tabF Try.prog) 300 kpT (memoH memC) 9) mf16 = true := by kernel_rfl
theorem mf17_ok : meB (evCall (tabT Try.prog) (tabF Try.prog) 300 kpT (memoH memC) 9) mf17 = true := by kernel_rfl
theorem mf18_ok : meB (evCall (tabT Try.prog) (tabF Try.prog) 300 kpT (memoH memC) 9) mf18 = true := by kernel_rfl
theorem mf19_ok : meB (evCall (tabT Try.prog) (tabF Try.prog) 300 kpT (memoH memC) 9) mf19 = true := by kernel_rfl
theorem mf20_ok : meB (evCall (tabT Try.prog) (tabF Try.prog) 300 kpT (memoH memC) 9) mf20 = true := by kernel_rfl
theorem memF_ok : CallOK Try.prog (memoH memF) := memoH_ok (evCall_sound (tabT_ok _) (tabF_ok _) mixed 300 kpT memC_ok 9) (by
  intro e he
  simp only [memF, List.mem_cons, List.not_mem_nil, or_false] at he
  rcases he with rfl | rfl | rfl | rfl | rfl | rfl | rfl | rfl | rfl | rfl | rfl | rfl | rfl | rfl | rfl | rfl | rfl | rfl | rfl | rfl | rfl
  · exact meB_ok mf0_ok
  · exact meB_ok mf1_ok
  · exact meB_ok mf2_ok
  · exact meB_ok mf3_ok
  · exact meB_ok mf4_ok
  · exact meB_ok mf5_ok
  · exact meB_ok mf6_ok
  · exact meB_ok mf7_ok
  · exact meB_ok mf8_ok
  · exact meB_ok mf9_ok
  · exact meB_ok mf10_ok
  · exact meB_ok mf11_ok
  · exact meB_ok mf12_ok
  · exact meB_ok mf13_ok
  · exact meB_ok mf14_ok
  · exact meB_ok mf15_ok
  · exact meB_ok mf16_ok
  · exact meB_ok mf17_ok
  · exact meB_ok mf18_ok
  · exact meB_ok mf19_ok
  · exact meB_ok mf20_ok)

end Go.Proofs.Ytkoppbbmdjhaoaa
