/-
  What is proved: what functions answer for examples of the small set.
-/
import Derived.Test.YtmmhoegggmmbbaaGreatDoorM5j
namespace Go.Proofs.YtmmhoegggmmbbaaGreatDoor
open Go.RowKit

def m6x0e0 : MF := ⟨4, [], ⟨0, []⟩, .bool true, []⟩
def m6x0e1 : MF := ⟨5, [], ⟨0, []⟩, .bool true, []⟩
def m6x0e2 : MF := ⟨6, [], ⟨0, []⟩, .bool true, []⟩
theorem m6x0e0_ok : mfB (evCall (tabT Tryz.prog) (tabF Tryz.prog) 300 kpT hm5 60) m6x0e0 = true := by kernel_rfl
theorem m6x0e1_ok : mfB (evCall (tabT Tryz.prog) (tabF Tryz.prog) 300 kpT hm5 60) m6x0e1 = true := by kernel_rfl
theorem m6x0e2_ok : mfB (evCall (tabT Tryz.prog) (tabF Tryz.prog) 300 kpT hm5 60) m6x0e2 = true := by kernel_rfl
def m6x0L : List MF := [m6x0e0, m6x0e1, m6x0e2]
theorem m6x0L_ok : CallOK Tryz.prog (memoF m6x0L) := memoF_ok (evCall_sound (tabT_ok _) (tabF_ok _) mixed 300 kpT hm5_ok 60) (by
  intro e he
  simp only [m6x0L, List.mem_cons, List.not_mem_nil, or_false] at he
  rcases he with rfl | rfl | rfl
  · exact mfB_ok m6x0e0_ok
  · exact mfB_ok m6x0e1_ok
  · exact mfB_ok m6x0e2_ok)

end Go.Proofs.YtmmhoegggmmbbaaGreatDoor
