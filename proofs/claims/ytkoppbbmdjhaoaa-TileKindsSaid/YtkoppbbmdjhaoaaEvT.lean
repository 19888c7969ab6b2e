/-
  What is proved: the answers of tile.Check at six sets, and of tile.find at the kinds of the chapter's examples, as the abstract run has them.
-/
import Derived.Test.YtkoppbbmdjhaoaaEvR
import Derived.Test.YtkoppbbmdjhaoaaEvS
namespace Go.Proofs.Ytkoppbbmdjhaoaa
open Go.RowKit

def setV (p : Int) (ns : Nat) (w d f c m : Int) (de : Int) (nr : Nat) : Value :=
  .agg #[.int .i64 p, .slice (some ⟨0, 0, none⟩) ns 1, .int .i64 w, .int .i64 d, .int .i64 f, .int .i64 c, .int .i64 m, .int .i64 de, .slice (some ⟨1, 0, none⟩) nr 1]
def setH (su re : List Int) : AH := ⟨2, [(1, .cells true (re.map (Value.int .i64))), (0, .cells true (su.map (Value.int .i64)))]⟩

def mc0 : ME := ⟨17, [(setV 4 3 4 3 0 4 4 (14) 3)], setH [9, 9, 9] [4, 13, 22], .int .i64 0⟩
def mc1 : ME := ⟨17, [(setV 3 1 0 1 0 4 1 (2) 1)], setH [3] [1], .int .i64 0⟩
def mc2 : ME := ⟨17, [(setV 3 1 0 1 0 4 1 (4) 1)], setH [3] [1], .int .i64 6⟩
def mc3 : ME := ⟨17, [(setV 3 1 0 1 0 4 1 (2) 2)], setH [3] [2, 1], .int .i64 11⟩
def mc4 : ME := ⟨17, [(setV 3 1 0 1 0 4 1 (2) 1)], setH [3] [4], .int .i64 2⟩
def mc5 : ME := ⟨17, [(setV 3 1 0 1 0 4 1 (2) 1)], setH [10] [1], .int .i64 2⟩
def memC : List ME := [mc0, mc1, mc2, mc3, mc4, mc5]
theorem mc0_ok : meB (evCall (tabT Try.prog) (tabF Try.prog) 300 kpT noH 9) mc0 = true := by kernel_rfl
theorem mc1_ok : meB (evCall (tabT Try.prog) (tabF Try.prog) 300 kpT noH 9) mc1 = true := by kernel_rfl
theorem mc2_ok : meB (evCall (tabT Try.prog) (tabF Try.prog) 300 kpT noH 9) mc2 = true := by kernel_rfl
theorem mc3_ok : meB (evCall (tabT Try.prog) (tabF Try.prog) 300 kpT noH 9) mc3 = true := by kernel_rfl
theorem mc4_ok : meB (evCall (tabT Try.prog) (tabF Try.prog) 300 kpT noH 9) mc4 = true := by kernel_rfl
theorem mc5_ok : meB (evCall (tabT Try.prog) (tabF Try.prog) 300 kpT noH 9) mc5 = true := by kernel_rfl
theorem memC_ok : CallOK Try.prog (memoH memC) := memoH_ok (evCall_sound (tabT_ok _) (tabF_ok _) mixed 300 kpT noH_ok 9) (by
  intro e he
  simp only [memC, List.mem_cons, List.not_mem_nil, or_false] at he
  rcases he with rfl | rfl | rfl | rfl | rfl | rfl
  · exact meB_ok mc0_ok
  · exact meB_ok mc1_ok
  · exact meB_ok mc2_ok
  · exact meB_ok mc3_ok
  · exact meB_ok mc4_ok
  · exact meB_ok mc5_ok)

end Go.Proofs.Ytkoppbbmdjhaoaa
