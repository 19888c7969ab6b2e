/-
  What is proved: what functions answer for examples.
-/
import Derived.Test.YtcdlbcjfmneglaaGreatDoorM2j
namespace Go.Proofs.YtcdlbcjfmneglaaGreatDoor
open Go.RowKit

def m3x1e0 : MF := ⟨15, [(Value.agg #[.int .i64 (4), (Value.slice (some ⟨0, 0, none⟩) 1 1), .int .i64 (0), .int .i64 (1), .int .i64 (0), .int .i64 (4), .int .i64 (2), .int .i64 (2), (Value.slice (some ⟨1, 0, none⟩) 1 1), (Value.slice (some ⟨2, 0, none⟩) 1 3), (Value.slice (some ⟨3, 0, none⟩) 3 6), (Value.slice none 0 0), .int .i64 (1), .int .i64 (8), .bool true, (Value.slice (some ⟨4, 0, none⟩) 2 2), .int .i64 (100), .int .i64 (1), .bool true, .int .i64 (0), .int .i64 (100), .int .i64 (1000), .int .i64 (0), .int .i64 (0), .int .i64 (0), .int .i64 (1), .int .i64 (0), .bool false, (Value.slice none 0 0), (Value.slice (some ⟨5, 0, none⟩) 1 2), .bool false, .int .i64 (1), .bool false, .int .i64 (0), .bool false, .int .i64 (0), .int .i64 (0), .int .i64 (0), .bool false, .bool false, .bool false, .int .i64 (5), .int .i64 (1), .int .i64 (0), .bool false, .bool false])], ⟨9, [(8, (ABlk.cellsT true [.int .i64 (0), .int .i64 (4)] none)), (7, (ABlk.cellsT true [.int .i64 (0)] none)), (6, (ABlk.cellsT true [.int .i64 (0)] none)), (5, (ABlk.cellsT true [(Value.slice (some ⟨8, 0, none⟩) 2 1), .int .i64 (2)] none)), (4, (ABlk.cellsT true [.int .i64 (5), .int .i64 (2000), .int .i64 (6), .int .i64 (3000)] none)), (3, (ABlk.cellsT true [(Value.string ⟨#[97]⟩), .int .i64 (2), .int .i64 (1), (Value.slice none 0 0), (Value.slice none 0 0), (Value.slice none 0 0), (Value.string ⟨#[98]⟩), .int .i64 (3), .int .i64 (3), (Value.slice none 0 0), (Value.slice (some ⟨6, 0, none⟩) 1 1), (Value.slice none 0 0), (Value.string ⟨#[99]⟩), .int .i64 (2), .int .i64 (0), (Value.slice none 0 0), (Value.slice none 0 0), (Value.slice (some ⟨7, 0, none⟩) 1 1)] none)), (2, (ABlk.cellsT true [.int .i64 (1), (Value.slice none 0 0), .bool false] none)), (1, (ABlk.cellsT true [.int .i64 (1)] none)), (0, (ABlk.cellsT true [.int .i64 (9)] none))]⟩, .int .i64 (0), []⟩
theorem m3x1e0_ok : mfB (evCall (tabT Tryz.prog) (tabF Tryz.prog) 300 kpT hm2 60) m3x1e0 = true := by kernel_rfl
def m3x1L : List MF := [m3x1e0]
theorem m3x1L_ok : CallOK Tryz.prog (memoF m3x1L) := memoF_ok (evCall_sound (tabT_ok _) (tabF_ok _) mixed 300 kpT hm2_ok 60) (by
  intro e he
  simp only [m3x1L, List.mem_cons, List.not_mem_nil, or_false] at he
  rcases he with rfl
  · exact mfB_ok m3x1e0_ok)

end Go.Proofs.YtcdlbcjfmneglaaGreatDoor
