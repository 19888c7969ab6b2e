/-
  What is proved: what functions answer for examples.
-/
import Derived.Test.YtcdlbcjfmneglaaGreatDoorM2j
namespace Go.Proofs.YtcdlbcjfmneglaaGreatDoor
open Go.RowKit

def m3x6e0 : MF := ⟨61, [(Value.agg #[.int .i64 (3), (Value.slice (some ⟨0, 0, none⟩) 1 1), .int .i64 (0), .int .i64 (1), .int .i64 (0), .int .i64 (4), .int .i64 (1), .int .i64 (2), (Value.slice (some ⟨1, 0, none⟩) 1 1)]), (Value.slice (some ⟨2, 0, none⟩) 1 3), (Value.agg #[(Value.slice (some ⟨3, 0, none⟩) 4 1), (Value.slice none 0 0)])], ⟨4, [(3, (ABlk.cellsT true [.int .i64 (1), .int .i64 (1), .int .i64 (2), .int .i64 (0)] none)), (2, (ABlk.cellsT true [.int .i64 (1), (Value.slice none 0 0), .bool false] none)), (1, (ABlk.cellsT true [.int .i64 (1)] none)), (0, (ABlk.cellsT true [.int .i64 (3)] none))]⟩, (Value.slice (some ⟨4, 0, none⟩) 1 1), [(4, (ABlk.cellsT false [.int .i64 (2)] none))]⟩
theorem m3x6e0_ok : mfB (evCall (tabT Tryz.prog) (tabF Tryz.prog) 300 kpT hm2 60) m3x6e0 = true := by kernel_rfl
def m3x6L : List MF := [m3x6e0]
theorem m3x6L_ok : CallOK Tryz.prog (memoF m3x6L) := memoF_ok (evCall_sound (tabT_ok _) (tabF_ok _) mixed 300 kpT hm2_ok 60) (by
  intro e he
  simp only [m3x6L, List.mem_cons, List.not_mem_nil, or_false] at he
  rcases he with rfl
  · exact mfB_ok m3x6e0_ok)

end Go.Proofs.YtcdlbcjfmneglaaGreatDoor
