/-
  What is proved: what functions answer for examples of the small set.
-/
import Derived.Test.YtmmhoegggmmbbaaGreatDoorM1j
namespace Go.Proofs.YtmmhoegggmmbbaaGreatDoor
open Go.RowKit

def m2x3e0 : MF := ⟨104, [(Value.slice (some ⟨0, 0, none⟩) 4 1), (Value.string ⟨#[32]⟩)], ⟨1, [(0, (ABlk.cellsT true [(Value.string ⟨#[112, 97, 116, 116, 101, 114, 110]⟩), (Value.string ⟨#[100, 114, 97, 103, 111, 110]⟩), (Value.string ⟨#[50]⟩), (Value.string ⟨#[49]⟩)] none))]⟩, (Value.string ⟨#[112, 97, 116, 116, 101, 114, 110, 32, 100, 114, 97, 103, 111, 110, 32, 50, 32, 49]⟩), []⟩
def m2x3e1 : MF := ⟨104, [(Value.slice (some ⟨0, 0, none⟩) 1 1), (Value.string ⟨#[44]⟩)], ⟨1, [(0, (ABlk.cellsT true [(Value.string ⟨#[51]⟩)] none))]⟩, (Value.string ⟨#[51]⟩), []⟩
def m2x3e2 : MF := ⟨104, [(Value.slice (some ⟨0, 0, none⟩) 6 1), (Value.string ⟨#[32]⟩)], ⟨1, [(0, (ABlk.cellsT true [(Value.string ⟨#[119, 104, 101, 110]⟩), (Value.string ⟨#[103, 114, 111, 117, 112, 115]⟩), (Value.string ⟨#[54]⟩), (Value.string ⟨#[48]⟩), (Value.string ⟨#[49]⟩), (Value.string ⟨#[51]⟩)] none))]⟩, (Value.string ⟨#[119, 104, 101, 110, 32, 103, 114, 111, 117, 112, 115, 32, 54, 32, 48, 32, 49, 32, 51]⟩), []⟩
def m2x3e3 : MF := ⟨104, [(Value.slice (some ⟨0, 0, none⟩) 4 1), (Value.string ⟨#[32]⟩)], ⟨1, [(0, (ABlk.cellsT true [(Value.string ⟨#[112, 97, 116, 116, 101, 114, 110]⟩), (Value.string ⟨#[113, 117, 105, 101, 116]⟩), (Value.string ⟨#[49]⟩), (Value.string ⟨#[48]⟩)] none))]⟩, (Value.string ⟨#[112, 97, 116, 116, 101, 114, 110, 32, 113, 117, 105, 101, 116, 32, 49, 32, 48]⟩), []⟩
def m2x3e4 : MF := ⟨104, [(Value.slice (some ⟨0, 0, none⟩) 4 1), (Value.string ⟨#[32]⟩)], ⟨1, [(0, (ABlk.cellsT true [(Value.string ⟨#[119, 104, 101, 110]⟩), (Value.string ⟨#[97, 110, 100]⟩), (Value.string ⟨#[115, 101, 108, 102]⟩), (Value.string ⟨#[99, 108, 111, 115, 101, 100]⟩)] none))]⟩, (Value.string ⟨#[119, 104, 101, 110, 32, 97, 110, 100, 32, 115, 101, 108, 102, 32, 99, 108, 111, 115, 101, 100]⟩), []⟩
def m2x3e5 : MF := ⟨104, [(Value.slice (some ⟨0, 0, none⟩) 8 1), (Value.string ⟨#[32]⟩)], ⟨1, [(0, (ABlk.cellsT true [(Value.string ⟨#[109, 105, 110, 111, 114]⟩), (Value.string ⟨#[116, 105, 109, 101, 115]⟩), (Value.string ⟨#[110, 117, 109, 98, 101, 114]⟩), (Value.string ⟨#[49, 48]⟩), (Value.string ⟨#[115, 117, 109]⟩), (Value.string ⟨#[110, 117, 109, 98, 101, 114]⟩), (Value.string ⟨#[49]⟩), (Value.string ⟨#[119, 97, 105, 116, 115]⟩)] none))]⟩, (Value.string ⟨#[109, 105, 110, 111, 114, 32, 116, 105, 109, 101, 115, 32, 110, 117, 109, 98, 101, 114, 32, 49, 48, 32, 115, 117, 109, 32, 110, 117, 109, 98, 101, 114, 32, 49, 32, 119, 97, 105, 116, 115]⟩), []⟩
def m2x3e6 : MF := ⟨104, [(Value.slice (some ⟨0, 0, none⟩) 2 1), (Value.string ⟨#[32]⟩)], ⟨1, [(0, (ABlk.cellsT true [(Value.string ⟨#[108, 101, 97, 115, 116]⟩), (Value.string ⟨#[49]⟩)] none))]⟩, (Value.string ⟨#[108, 101, 97, 115, 116, 32, 49]⟩), []⟩
def m2x3e7 : MF := ⟨104, [(Value.slice (some ⟨0, 0, none⟩) 4 1), (Value.string ⟨#[32]⟩)], ⟨1, [(0, (ABlk.cellsT true [(Value.string ⟨#[115, 99, 97, 108, 101]⟩), (Value.string ⟨#[49]⟩), (Value.string ⟨#[49]⟩), (Value.string ⟨#[48]⟩)] none))]⟩, (Value.string ⟨#[115, 99, 97, 108, 101, 32, 49, 32, 49, 32, 48]⟩), []⟩
def m2x3e8 : MF := ⟨104, [(Value.slice (some ⟨0, 0, none⟩) 12 1), (Value.string ⟨#[32]⟩)], ⟨1, [(0, (ABlk.cellsT true [(Value.string ⟨#[112, 97, 121]⟩), (Value.string ⟨#[49]⟩), (Value.string ⟨#[48]⟩), (Value.string ⟨#[48]⟩), (Value.string ⟨#[48]⟩), (Value.string ⟨#[48]⟩), (Value.string ⟨#[48]⟩), (Value.string ⟨#[48]⟩), (Value.string ⟨#[48]⟩), (Value.string ⟨#[49]⟩), (Value.string ⟨#[48]⟩), (Value.string ⟨#[48]⟩)] none))]⟩, (Value.string ⟨#[112, 97, 121, 32, 49, 32, 48, 32, 48, 32, 48, 32, 48, 32, 48, 32, 48, 32, 48, 32, 49, 32, 48, 32, 48]⟩), []⟩
def m2x3e9 : MF := ⟨104, [(Value.slice (some ⟨0, 0, none⟩) 17 1), (Value.string ⟨#[32]⟩)], ⟨1, [(0, (ABlk.cellsT true [(Value.string ⟨#[112, 108, 97, 121]⟩), (Value.string ⟨#[48]⟩), (Value.string ⟨#[49]⟩), (Value.string ⟨#[48]⟩), (Value.string ⟨#[48]⟩), (Value.string ⟨#[48]⟩), (Value.string ⟨#[48]⟩), (Value.string ⟨#[48]⟩), (Value.string ⟨#[48]⟩), (Value.string ⟨#[48]⟩), (Value.string ⟨#[48]⟩), (Value.string ⟨#[48]⟩), (Value.string ⟨#[53]⟩), (Value.string ⟨#[49]⟩), (Value.string ⟨#[48]⟩), (Value.string ⟨#[48]⟩), (Value.string ⟨#[48]⟩)] none))]⟩, (Value.string ⟨#[112, 108, 97, 121, 32, 48, 32, 49, 32, 48, 32, 48, 32, 48, 32, 48, 32, 48, 32, 48, 32, 48, 32, 48, 32, 48, 32, 53, 32, 49, 32, 48, 32, 48, 32, 48]⟩), []⟩
theorem m2x3e0_ok : mfB (evCall (tabT Tryz.prog) (tabF Tryz.prog) 300 kpT hm1 60) m2x3e0 = true := by kernel_rfl
theorem m2x3e1_ok : mfB (evCall (tabT Tryz.prog) (tabF Tryz.prog) 300 kpT hm1 60) m2x3e1 = true := by kernel_rfl
theorem m2x3e2_ok : mfB (evCall (tabT Tryz.prog) (tabF Tryz.prog) 300 kpT hm1 60) m2x3e2 = true := by kernel_rfl
theorem m2x3e3_ok : mfB (evCall (tabT Tryz.prog) (tabF Tryz.prog) 300 kpT hm1 60) m2x3e3 = true := by kernel_rfl
theorem m2x3e4_ok : mfB (evCall (tabT Tryz.prog) (tabF Tryz.prog) 300 kpT hm1 60) m2x3e4 = true := by kernel_rfl
theorem m2x3e5_ok : mfB (evCall (tabT Tryz.prog) (tabF Tryz.prog) 300 kpT hm1 60) m2x3e5 = true := by kernel_rfl
theorem m2x3e6_ok : mfB (evCall (tabT Tryz.prog) (tabF Tryz.prog) 300 kpT hm1 60) m2x3e6 = true := by kernel_rfl
theorem m2x3e7_ok : mfB (evCall (tabT Tryz.prog) (tabF Tryz.prog) 300 kpT hm1 60) m2x3e7 = true := by kernel_rfl
theorem m2x3e8_ok : mfB (evCall (tabT Tryz.prog) (tabF Tryz.prog) 300 kpT hm1 60) m2x3e8 = true := by kernel_rfl
theorem m2x3e9_ok : mfB (evCall (tabT Tryz.prog) (tabF Tryz.prog) 300 kpT hm1 60) m2x3e9 = true := by kernel_rfl
def m2x3L : List MF := [m2x3e0, m2x3e1, m2x3e2, m2x3e3, m2x3e4, m2x3e5, m2x3e6, m2x3e7, m2x3e8, m2x3e9]
theorem m2x3L_ok : CallOK Tryz.prog (memoF m2x3L) := memoF_ok (evCall_sound (tabT_ok _) (tabF_ok _) mixed 300 kpT hm1_ok 60) (by
  intro e he
  simp only [m2x3L, List.mem_cons, List.not_mem_nil, or_false] at he
  rcases he with rfl | rfl | rfl | rfl | rfl | rfl | rfl | rfl | rfl | rfl
  · exact mfB_ok m2x3e0_ok
  · exact mfB_ok m2x3e1_ok
  · exact mfB_ok m2x3e2_ok
  · exact mfB_ok m2x3e3_ok
  · exact mfB_ok m2x3e4_ok
  · exact mfB_ok m2x3e5_ok
  · exact mfB_ok m2x3e6_ok
  · exact mfB_ok m2x3e7_ok
  · exact mfB_ok m2x3e8_ok
  · exact mfB_ok m2x3e9_ok)

end Go.Proofs.YtmmhoegggmmbbaaGreatDoor
