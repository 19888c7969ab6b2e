/-
  What is proved: what Waits, Readings and Splits answer for the examples of the big set.
-/
import Derived.Test.YtblbjdobhlgghaaGreatDoorFd
namespace Go.Proofs.YtblbjdobhlgghaaGreatDoor
open Go.RowKit

def fe2x0 : MF := ⟨39, [.agg #[.int .i64 (4), .slice (some ⟨0, 0, none⟩) 3 1, .int .i64 (4), .int .i64 (3), .int .i64 (0), .int .i64 (4), .int .i64 (4), .int .i64 (14), .slice (some ⟨1, 0, none⟩) 3 1], .slice (some ⟨2, 0, none⟩) 34 1], ⟨3, [(2, .cells true [.int .i64 (3), .int .i64 (3), .int .i64 (3), .int .i64 (2), .int .i64 (0), .int .i64 (0), .int .i64 (0), .int .i64 (0), .int .i64 (0), .int .i64 (0), .int .i64 (0), .int .i64 (0), .int .i64 (0), .int .i64 (0), .int .i64 (0), .int .i64 (0), .int .i64 (0), .int .i64 (0), .int .i64 (0), .int .i64 (0), .int .i64 (0), .int .i64 (0), .int .i64 (0), .int .i64 (0), .int .i64 (0), .int .i64 (0), .int .i64 (0), .int .i64 (3), .int .i64 (0), .int .i64 (0), .int .i64 (0), .int .i64 (0), .int .i64 (0), .int .i64 (0)]), (1, .cells true [.int .i64 (4), .int .i64 (13), .int .i64 (22)]), (0, .cells true [.int .i64 (9), .int .i64 (9), .int .i64 (9)])]⟩, (Value.slice (some ⟨3, 0, none⟩) 3 1), [(3, (ABlk.cells false [(Value.slice (some ⟨4, 0, none⟩) 5 3), (Value.slice (some ⟨5, 0, none⟩) 5 3), (Value.slice (some ⟨6, 0, none⟩) 5 3)])), (4, (ABlk.cells false [.int .i64 (1), .int .i64 (0), .bool false, .int .i64 (1), .int .i64 (0), .bool false, .int .i64 (1), .int .i64 (0), .bool false, .int .i64 (2), .int .i64 (27), .bool false, .int .i64 (4), .int .i64 (3), .bool false])), (5, (ABlk.cells false [.int .i64 (1), .int .i64 (0), .bool false, .int .i64 (1), .int .i64 (1), .bool false, .int .i64 (1), .int .i64 (1), .bool false, .int .i64 (2), .int .i64 (27), .bool false, .int .i64 (4), .int .i64 (0), .bool false])), (6, (ABlk.cells false [.int .i64 (2), .int .i64 (0), .bool false, .int .i64 (2), .int .i64 (1), .bool false, .int .i64 (2), .int .i64 (2), .bool false, .int .i64 (2), .int .i64 (27), .bool false, .int .i64 (4), .int .i64 (3), .bool false]))]⟩
theorem fe2x0_ok : mfB (evCall (tabT Tryz.prog) (tabF Tryz.prog) 300 kpT hS 60) fe2x0 = true := by kernel_rfl
def fe2xL : List MF := [fe2x0]
theorem fe2xL_ok : CallOK Tryz.prog (memoF fe2xL) := memoF_ok (evCall_sound (tabT_ok _) (tabF_ok _) mixed 300 kpT hS_ok 60) (by
  intro e he
  simp only [fe2xL, List.mem_cons, List.not_mem_nil, or_false] at he
  rcases he with rfl
  · exact mfB_ok fe2x0_ok)

end Go.Proofs.YtblbjdobhlgghaaGreatDoor
