/-
  What is proved: what Readings answers for the last example but one.
-/
import Derived.Test.YtblbjdobhlgghaaGreatDoorFf
namespace Go.Proofs.YtblbjdobhlgghaaGreatDoor
open Go.RowKit

def fe1x0 : MF := ⟨42, [.agg #[.int .i64 (4), .slice (some ⟨0, 0, none⟩) 3 1, .int .i64 (4), .int .i64 (3), .int .i64 (0), .int .i64 (4), .int .i64 (4), .int .i64 (14), .slice (some ⟨1, 0, none⟩) 3 1], .slice (some ⟨2, 0, none⟩) 1 3, .agg #[.slice (some ⟨3, 0, none⟩) 34 1, .slice none 0 0], .int .i64 (3)], ⟨4, [(3, .cells true [.int .i64 (3), .int .i64 (3), .int .i64 (3), .int .i64 (2), .int .i64 (0), .int .i64 (0), .int .i64 (0), .int .i64 (0), .int .i64 (0), .int .i64 (0), .int .i64 (0), .int .i64 (0), .int .i64 (0), .int .i64 (0), .int .i64 (0), .int .i64 (0), .int .i64 (0), .int .i64 (0), .int .i64 (0), .int .i64 (0), .int .i64 (0), .int .i64 (0), .int .i64 (0), .int .i64 (0), .int .i64 (0), .int .i64 (0), .int .i64 (0), .int .i64 (3), .int .i64 (0), .int .i64 (0), .int .i64 (0), .int .i64 (0), .int .i64 (0), .int .i64 (0)]), (2, .cells true [.int .i64 (1), .slice none 0 0, .bool false]), (1, .cells true [.int .i64 (4), .int .i64 (13), .int .i64 (22)]), (0, .cells true [.int .i64 (9), .int .i64 (9), .int .i64 (9)])]⟩, (Value.slice (some ⟨4, 0, none⟩) 3 3), [(4, (ABlk.cells false [.int .i64 (0), (Value.slice (some ⟨5, 0, none⟩) 5 3), .int .i64 (4), .int .i64 (0), (Value.slice (some ⟨6, 0, none⟩) 5 3), .int .i64 (1), .int .i64 (0), (Value.slice (some ⟨7, 0, none⟩) 5 3), .int .i64 (4)])), (5, (ABlk.cells false [.int .i64 (1), .int .i64 (0), .bool false, .int .i64 (1), .int .i64 (0), .bool false, .int .i64 (1), .int .i64 (0), .bool false, .int .i64 (2), .int .i64 (27), .bool false, .int .i64 (4), .int .i64 (3), .bool false])), (6, (ABlk.cells false [.int .i64 (1), .int .i64 (0), .bool false, .int .i64 (1), .int .i64 (1), .bool false, .int .i64 (1), .int .i64 (1), .bool false, .int .i64 (2), .int .i64 (27), .bool false, .int .i64 (4), .int .i64 (0), .bool false])), (7, (ABlk.cells false [.int .i64 (2), .int .i64 (0), .bool false, .int .i64 (2), .int .i64 (1), .bool false, .int .i64 (2), .int .i64 (2), .bool false, .int .i64 (2), .int .i64 (27), .bool false, .int .i64 (4), .int .i64 (3), .bool false]))]⟩
theorem fe1x0_ok : mfB (evCall (tabT Tryz.prog) (tabF Tryz.prog) 300 kpT (orH hS (memoF ffxL)) 60) fe1x0 = true := by kernel_rfl
def fe1xL : List MF := [fe1x0]
theorem fe1xL_ok : CallOK Tryz.prog (memoF fe1xL) := memoF_ok (evCall_sound (tabT_ok _) (tabF_ok _) mixed 300 kpT (orH_ok hS_ok ffxL_ok) 60) (by
  intro e he
  simp only [fe1xL, List.mem_cons, List.not_mem_nil, or_false] at he
  rcases he with rfl
  · exact mfB_ok fe1x0_ok)

end Go.Proofs.YtblbjdobhlgghaaGreatDoor
