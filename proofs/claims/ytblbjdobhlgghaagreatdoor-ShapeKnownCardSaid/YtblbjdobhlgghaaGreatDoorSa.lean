/-
  What is proved: the answers of tile.Check at the two sets of the examples.
-/
import Derived.Test.YtblbjdobhlgghaaGreatDoorEvR
import Derived.Test.YtblbjdobhlgghaaGreatDoorEvS
namespace Go.Proofs.YtblbjdobhlgghaaGreatDoor
open Go.RowKit

def setV (p : Int) (ns : Nat) (w d f c m : Int) (de : Int) (nr : Nat) : Value :=
  .agg #[.int .i64 p, .slice (some ⟨0, 0, none⟩) ns 1, .int .i64 w, .int .i64 d, .int .i64 f, .int .i64 c, .int .i64 m, .int .i64 de, .slice (some ⟨1, 0, none⟩) nr 1]
def setH (su re : List Int) : AH := ⟨2, [(1, .cells true (re.map (Value.int .i64))), (0, .cells true (su.map (Value.int .i64)))]⟩

def mc0 : ME := ⟨70, [(setV 4 3 4 3 0 4 4 (14) 3)], setH [9, 9, 9] [4, 13, 22], .int .i64 0⟩
def mc1 : ME := ⟨70, [(setV 3 1 0 1 0 4 1 (2) 1)], setH [3] [1], .int .i64 0⟩
def mcL : List ME := [mc0, mc1]
theorem mc0_ok : meB (evCall (tabT Tryz.prog) (tabF Tryz.prog) 300 kpT noH 9) mc0 = true := by kernel_rfl
theorem mc1_ok : meB (evCall (tabT Tryz.prog) (tabF Tryz.prog) 300 kpT noH 9) mc1 = true := by kernel_rfl
theorem mcL_ok : CallOK Tryz.prog (memoH mcL) := memoH_ok (evCall_sound (tabT_ok _) (tabF_ok _) mixed 300 kpT noH_ok 9) (by
  intro e he
  simp only [mcL, List.mem_cons, List.not_mem_nil, or_false] at he
  rcases he with rfl | rfl
  · exact meB_ok mc0_ok
  · exact meB_ok mc1_ok)

end Go.Proofs.YtblbjdobhlgghaaGreatDoor
