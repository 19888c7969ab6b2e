/-
  What is proved: the examples' errors (sparrowlaw02.known) and the program's own examples (sparrowlaw02.awake) are answered true.
-/
import Derived.Test.YtblbjdobhlgghaaGreatDoorFg
namespace Go.Proofs.YtblbjdobhlgghaaGreatDoor
open Go.RowKit

def fhx0 : MF := ⟨52, [], ⟨0, []⟩, .bool true, []⟩
def fhx1 : MF := ⟨16, [], ⟨0, []⟩, .bool true, []⟩
theorem fhx0_ok : mfB (evCall (tabT Tryz.prog) (tabF Tryz.prog) 300 kpT hK 30) fhx0 = true := by kernel_rfl
theorem fhx1_ok : mfB (evCall (tabT Tryz.prog) (tabF Tryz.prog) 300 kpT hK 30) fhx1 = true := by kernel_rfl
def fhxL : List MF := [fhx0, fhx1]
theorem fhxL_ok : CallOK Tryz.prog (memoF fhxL) := memoF_ok (evCall_sound (tabT_ok _) (tabF_ok _) mixed 300 kpT hK_ok 30) (by
  intro e he
  simp only [fhxL, List.mem_cons, List.not_mem_nil, or_false] at he
  rcases he with rfl | rfl
  · exact mfB_ok fhx0_ok
  · exact mfB_ok fhx1_ok)

def hL : Value → List Value → AH → Option (Value × AH) := orH hK (memoF fhxL)
theorem hL_ok : CallOK Tryz.prog hL := orH_ok hK_ok fhxL_ok

end Go.Proofs.YtblbjdobhlgghaaGreatDoor
