/-
  What is proved: what functions answer for examples.
-/
import Derived.Test.YtbofnpohamajpaaDoorEvR
import Derived.Test.YtbofnpohamajpaaDoorFa
namespace Go.Proofs.YtbofnpohamajpaaDoor
open Go.RowKit

def m1x0e0 : MF := ⟨46, [(Value.agg #[.int .i64 (3), (Value.slice (some ⟨0, 0, none⟩) 1 1), .int .i64 (0), .int .i64 (1), .int .i64 (0), .int .i64 (4), .int .i64 (1), .int .i64 (2), (Value.slice (some ⟨1, 0, none⟩) 1 1)])], ⟨2, [(1, (ABlk.cellsT true [.int .i64 (1)] none)), (0, (ABlk.cellsT true [.int .i64 (3)] none))]⟩, .int .i64 (0), []⟩
def m1x0e1 : MF := ⟨46, [(Value.agg #[.int .i64 (4), (Value.slice (some ⟨0, 0, none⟩) 1 1), .int .i64 (0), .int .i64 (1), .int .i64 (0), .int .i64 (4), .int .i64 (1), .int .i64 (2), (Value.slice (some ⟨1, 0, none⟩) 1 1)])], ⟨2, [(1, (ABlk.cellsT true [.int .i64 (1)] none)), (0, (ABlk.cellsT true [.int .i64 (4)] none))]⟩, .int .i64 (0), []⟩
theorem m1x0e0_ok : mfB (evCall (tabT Tryd.prog) (tabF Tryd.prog) 300 kpT noH 60) m1x0e0 = true := by kernel_rfl
theorem m1x0e1_ok : mfB (evCall (tabT Tryd.prog) (tabF Tryd.prog) 300 kpT noH 60) m1x0e1 = true := by kernel_rfl
def m1x0L : List MF := [m1x0e0, m1x0e1]
theorem m1x0L_ok : CallOK Tryd.prog (memoF m1x0L) := memoF_ok (evCall_sound (tabT_ok _) (tabF_ok _) mixed 300 kpT noH_ok 60) (by
  intro e he
  simp only [m1x0L, List.mem_cons, List.not_mem_nil, or_false] at he
  rcases he with rfl | rfl
  · exact mfB_ok m1x0e0_ok
  · exact mfB_ok m1x0e1_ok)
noncomputable def hm1 : Value → List Value → AH → Option (Value × AH) := memoF m1x0L
theorem hm1_ok : CallOK Tryd.prog hm1 := m1x0L_ok
def m2x0e0 : MF := ⟨29, [(Value.agg #[.int .i64 (3), (Value.slice (some ⟨0, 0, none⟩) 1 1), .int .i64 (0), .int .i64 (1), .int .i64 (0), .int .i64 (4), .int .i64 (1), .int .i64 (2), (Value.slice (some ⟨1, 0, none⟩) 1 1)]), (Value.slice (some ⟨2, 0, none⟩) 1 3)], ⟨3, [(2, (ABlk.cellsT true [.int .i64 (1), (Value.slice none 0 0), .bool false] none)), (1, (ABlk.cellsT true [.int .i64 (1)] none)), (0, (ABlk.cellsT true [.int .i64 (3)] none))]⟩, .int .i64 (0), []⟩
def m2x0e1 : MF := ⟨51, [.int .i64 (4), (Value.slice none 0 0)], ⟨0, []⟩, (Value.tuple #[.bool false, .int .i64 (0)]), []⟩
def m2x0e2 : MF := ⟨29, [(Value.agg #[.int .i64 (4), (Value.slice (some ⟨0, 0, none⟩) 1 1), .int .i64 (0), .int .i64 (1), .int .i64 (0), .int .i64 (4), .int .i64 (1), .int .i64 (2), (Value.slice (some ⟨1, 0, none⟩) 1 1)]), (Value.slice (some ⟨2, 0, none⟩) 1 3)], ⟨3, [(2, (ABlk.cellsT true [.int .i64 (1), (Value.slice none 0 0), .bool false] none)), (1, (ABlk.cellsT true [.int .i64 (1)] none)), (0, (ABlk.cellsT true [.int .i64 (4)] none))]⟩, .int .i64 (0), []⟩
def m2x0e3 : MF := ⟨51, [.int .i64 (5), (Value.slice none 0 0)], ⟨0, []⟩, (Value.tuple #[.bool false, .int .i64 (0)]), []⟩
theorem m2x0e0_ok : mfB (evCall (tabT Tryd.prog) (tabF Tryd.prog) 300 kpT hm1 60) m2x0e0 = true := by kernel_rfl
theorem m2x0e1_ok : mfB (evCall (tabT Tryd.prog) (tabF Tryd.prog) 300 kpT hm1 60) m2x0e1 = true := by kernel_rfl
theorem m2x0e2_ok : mfB (evCall (tabT Tryd.prog) (tabF Tryd.prog) 300 kpT hm1 60) m2x0e2 = true := by kernel_rfl
theorem m2x0e3_ok : mfB (evCall (tabT Tryd.prog) (tabF Tryd.prog) 300 kpT hm1 60) m2x0e3 = true := by kernel_rfl
def m2x0L : List MF := [m2x0e0, m2x0e1, m2x0e2, m2x0e3]
theorem m2x0L_ok : CallOK Tryd.prog (memoF m2x0L) := memoF_ok (evCall_sound (tabT_ok _) (tabF_ok _) mixed 300 kpT hm1_ok 60) (by
  intro e he
  simp only [m2x0L, List.mem_cons, List.not_mem_nil, or_false] at he
  rcases he with rfl | rfl | rfl | rfl
  · exact mfB_ok m2x0e0_ok
  · exact mfB_ok m2x0e1_ok
  · exact mfB_ok m2x0e2_ok
  · exact mfB_ok m2x0e3_ok)
noncomputable def hm2 : Value → List Value → AH → Option (Value × AH) := orH (hm1) (memoF m2x0L)
theorem hm2_ok : CallOK Tryd.prog hm2 := orH_ok (hm1_ok) m2x0L_ok
def m3x0e0 : MF := ⟨23, [(Value.agg #[.int .i64 (3), (Value.slice (some ⟨0, 0, none⟩) 1 1), .int .i64 (0), .int .i64 (1), .int .i64 (0), .int .i64 (4), .int .i64 (1), .int .i64 (2), (Value.slice (some ⟨1, 0, none⟩) 1 1), (Value.slice (some ⟨2, 0, none⟩) 1 3), (Value.slice (some ⟨3, 0, none⟩) 3 6), (Value.slice none 0 0), .int .i64 (1), .int .i64 (8), .bool true, (Value.slice (some ⟨4, 0, none⟩) 2 2), .int .i64 (100), .int .i64 (1), .bool true, .int .i64 (0), .int .i64 (100), .int .i64 (1000), .int .i64 (0), .int .i64 (0), .int .i64 (0), .int .i64 (1), .int .i64 (0), .bool false, (Value.slice none 0 0), (Value.slice none 0 0), .bool false, .int .i64 (1), .bool false, .int .i64 (0), .bool false, .int .i64 (0), .int .i64 (0), .int .i64 (0), .bool false, .bool false, .bool false, .int .i64 (5), .int .i64 (1), .int .i64 (0), .bool false, .bool false])], ⟨7, [(6, (ABlk.cellsT true [.int .i64 (0)] none)), (5, (ABlk.cellsT true [.int .i64 (0)] none)), (4, (ABlk.cellsT true [.int .i64 (5), .int .i64 (2000), .int .i64 (6), .int .i64 (3000)] none)), (3, (ABlk.cellsT true [(Value.string ⟨#[97]⟩), .int .i64 (2), .int .i64 (1), (Value.slice none 0 0), (Value.slice none 0 0), (Value.slice none 0 0), (Value.string ⟨#[98]⟩), .int .i64 (3), .int .i64 (3), (Value.slice none 0 0), (Value.slice (some ⟨5, 0, none⟩) 1 1), (Value.slice none 0 0), (Value.string ⟨#[99]⟩), .int .i64 (2), .int .i64 (0), (Value.slice none 0 0), (Value.slice none 0 0), (Value.slice (some ⟨6, 0, none⟩) 1 1)] none)), (2, (ABlk.cellsT true [.int .i64 (1), (Value.slice none 0 0), .bool false] none)), (1, (ABlk.cellsT true [.int .i64 (1)] none)), (0, (ABlk.cellsT true [.int .i64 (3)] none))]⟩, .int .i64 (0), []⟩
def m3x0e1 : MF := ⟨25, [(Value.slice (some ⟨0, 0, none⟩) 3 6), (Value.slice (some ⟨1, 0, none⟩) 3 2), .bool false], ⟨4, [(3, (ABlk.cellsT true [.int .i64 (0)] none)), (2, (ABlk.cellsT true [.int .i64 (0)] none)), (1, (ABlk.cellsT true [.int .i64 (0), .int .i64 (1), .int .i64 (1), .int .i64 (1), .int .i64 (2), .int .i64 (1)] none)), (0, (ABlk.cellsT true [(Value.string ⟨#[97]⟩), .int .i64 (2), .int .i64 (1), (Value.slice none 0 0), (Value.slice none 0 0), (Value.slice none 0 0), (Value.string ⟨#[98]⟩), .int .i64 (3), .int .i64 (3), (Value.slice none 0 0), (Value.slice (some ⟨2, 0, none⟩) 1 1), (Value.slice none 0 0), (Value.string ⟨#[99]⟩), .int .i64 (2), .int .i64 (0), (Value.slice none 0 0), (Value.slice none 0 0), (Value.slice (some ⟨3, 0, none⟩) 1 1)] none))]⟩, (Value.tuple #[(Value.slice (some ⟨4, 0, none⟩) 2 1), .int .i64 (5)]), [(4, (ABlk.cellsT false [.int .i64 (1), .int .i64 (2)] none))]⟩
def m3x0e2 : MF := ⟨23, [(Value.agg #[.int .i64 (4), (Value.slice (some ⟨0, 0, none⟩) 1 1), .int .i64 (0), .int .i64 (1), .int .i64 (0), .int .i64 (4), .int .i64 (1), .int .i64 (2), (Value.slice (some ⟨1, 0, none⟩) 1 1), (Value.slice (some ⟨2, 0, none⟩) 1 3), (Value.slice (some ⟨3, 0, none⟩) 3 6), (Value.slice none 0 0), .int .i64 (1), .int .i64 (8), .bool true, (Value.slice (some ⟨4, 0, none⟩) 2 2), .int .i64 (100), .int .i64 (1), .bool true, .int .i64 (0), .int .i64 (100), .int .i64 (1000), .int .i64 (0), .int .i64 (0), .int .i64 (0), .int .i64 (1), .int .i64 (0), .bool false, (Value.slice none 0 0), (Value.slice none 0 0), .bool false, .int .i64 (1), .bool false, .int .i64 (0), .bool false, .int .i64 (0), .int .i64 (0), .int .i64 (0), .bool false, .bool false, .bool false, .int .i64 (5), .int .i64 (1), .int .i64 (0), .bool false, .bool false])], ⟨7, [(6, (ABlk.cellsT true [.int .i64 (0)] none)), (5, (ABlk.cellsT true [.int .i64 (0)] none)), (4, (ABlk.cellsT true [.int .i64 (5), .int .i64 (2000), .int .i64 (6), .int .i64 (3000)] none)), (3, (ABlk.cellsT true [(Value.string ⟨#[97]⟩), .int .i64 (2), .int .i64 (1), (Value.slice none 0 0), (Value.slice none 0 0), (Value.slice none 0 0), (Value.string ⟨#[98]⟩), .int .i64 (3), .int .i64 (3), (Value.slice none 0 0), (Value.slice (some ⟨5, 0, none⟩) 1 1), (Value.slice none 0 0), (Value.string ⟨#[99]⟩), .int .i64 (2), .int .i64 (0), (Value.slice none 0 0), (Value.slice none 0 0), (Value.slice (some ⟨6, 0, none⟩) 1 1)] none)), (2, (ABlk.cellsT true [.int .i64 (1), (Value.slice none 0 0), .bool false] none)), (1, (ABlk.cellsT true [.int .i64 (1)] none)), (0, (ABlk.cellsT true [.int .i64 (4)] none))]⟩, .int .i64 (0), []⟩
theorem m3x0e0_ok : mfB (evCall (tabT Tryd.prog) (tabF Tryd.prog) 300 kpT hm2 60) m3x0e0 = true := by kernel_rfl
theorem m3x0e1_ok : mfB (evCall (tabT Tryd.prog) (tabF Tryd.prog) 300 kpT hm2 60) m3x0e1 = true := by kernel_rfl
theorem m3x0e2_ok : mfB (evCall (tabT Tryd.prog) (tabF Tryd.prog) 300 kpT hm2 60) m3x0e2 = true := by kernel_rfl
def m3x0L : List MF := [m3x0e0, m3x0e1, m3x0e2]
theorem m3x0L_ok : CallOK Tryd.prog (memoF m3x0L) := memoF_ok (evCall_sound (tabT_ok _) (tabF_ok _) mixed 300 kpT hm2_ok 60) (by
  intro e he
  simp only [m3x0L, List.mem_cons, List.not_mem_nil, or_false] at he
  rcases he with rfl | rfl | rfl
  · exact mfB_ok m3x0e0_ok
  · exact mfB_ok m3x0e1_ok
  · exact mfB_ok m3x0e2_ok)
noncomputable def hm3 : Value → List Value → AH → Option (Value × AH) := orH (hm2) (memoF m3x0L)
theorem hm3_ok : CallOK Tryd.prog hm3 := orH_ok (hm2_ok) m3x0L_ok
def m4x0e0 : MF := ⟨16, [(Value.agg #[.int .i64 (3), (Value.slice (some ⟨0, 0, none⟩) 1 1), .int .i64 (0), .int .i64 (1), .int .i64 (0), .int .i64 (4), .int .i64 (1), .int .i64 (2), (Value.slice (some ⟨1, 0, none⟩) 1 1), (Value.slice (some ⟨2, 0, none⟩) 1 3), (Value.slice (some ⟨3, 0, none⟩) 3 6), (Value.slice none 0 0), .int .i64 (1), .int .i64 (8), .bool true, (Value.slice (some ⟨4, 0, none⟩) 2 2), .int .i64 (100), .int .i64 (1), .bool true, .int .i64 (0), .int .i64 (100), .int .i64 (1000), .int .i64 (0), .int .i64 (0), .int .i64 (0), .int .i64 (1), .int .i64 (0), .bool false, (Value.slice none 0 0), (Value.slice none 0 0), .bool false, .int .i64 (1), .bool false, .int .i64 (0), .bool false, .int .i64 (0), .int .i64 (0), .int .i64 (0), .bool false, .bool false, .bool false, .int .i64 (5), .int .i64 (1), .int .i64 (0), .bool false, .bool false]), (Value.slice (some ⟨5, 0, none⟩) 3 2), .bool false], ⟨8, [(7, (ABlk.cellsT true [.int .i64 (0)] none)), (6, (ABlk.cellsT true [.int .i64 (0)] none)), (5, (ABlk.cellsT true [.int .i64 (0), .int .i64 (1), .int .i64 (1), .int .i64 (1), .int .i64 (2), .int .i64 (1)] none)), (4, (ABlk.cellsT true [.int .i64 (5), .int .i64 (2000), .int .i64 (6), .int .i64 (3000)] none)), (3, (ABlk.cellsT true [(Value.string ⟨#[97]⟩), .int .i64 (2), .int .i64 (1), (Value.slice none 0 0), (Value.slice none 0 0), (Value.slice none 0 0), (Value.string ⟨#[98]⟩), .int .i64 (3), .int .i64 (3), (Value.slice none 0 0), (Value.slice (some ⟨6, 0, none⟩) 1 1), (Value.slice none 0 0), (Value.string ⟨#[99]⟩), .int .i64 (2), .int .i64 (0), (Value.slice none 0 0), (Value.slice none 0 0), (Value.slice (some ⟨7, 0, none⟩) 1 1)] none)), (2, (ABlk.cellsT true [.int .i64 (1), (Value.slice none 0 0), .bool false] none)), (1, (ABlk.cellsT true [.int .i64 (1)] none)), (0, (ABlk.cellsT true [.int .i64 (3)] none))]⟩, (Value.tuple #[(Value.slice (some ⟨8, 0, none⟩) 2 1), .int .i64 (5), .int .i64 (0)]), [(8, (ABlk.cellsT false [.int .i64 (1), .int .i64 (2)] none))]⟩
def m4x0e1 : MF := ⟨28, [(Value.agg #[.int .i64 (4), (Value.slice (some ⟨0, 0, none⟩) 1 1), .int .i64 (0), .int .i64 (1), .int .i64 (0), .int .i64 (4), .int .i64 (1), .int .i64 (2), (Value.slice (some ⟨1, 0, none⟩) 1 1), (Value.slice (some ⟨2, 0, none⟩) 1 3), (Value.slice (some ⟨3, 0, none⟩) 3 6), (Value.slice none 0 0), .int .i64 (1), .int .i64 (8), .bool true, (Value.slice (some ⟨4, 0, none⟩) 2 2), .int .i64 (100), .int .i64 (1), .bool true, .int .i64 (0), .int .i64 (100), .int .i64 (1000), .int .i64 (0), .int .i64 (0), .int .i64 (0), .int .i64 (1), .int .i64 (0), .bool false, (Value.slice none 0 0), (Value.slice none 0 0), .bool false, .int .i64 (1), .bool false, .int .i64 (0), .bool false, .int .i64 (0), .int .i64 (0), .int .i64 (0), .bool false, .bool false, .bool false, .int .i64 (5), .int .i64 (1), .int .i64 (0), .bool false, .bool false]), .int .i64 (0), .int .i64 (1), (Value.agg #[.int .i64 (1), .int .i64 (2), .int .i64 (0), .int .i64 (480), .int .i64 (-1)])], ⟨7, [(6, (ABlk.cellsT true [.int .i64 (0)] none)), (5, (ABlk.cellsT true [.int .i64 (0)] none)), (4, (ABlk.cellsT true [.int .i64 (5), .int .i64 (2000), .int .i64 (6), .int .i64 (3000)] none)), (3, (ABlk.cellsT true [(Value.string ⟨#[97]⟩), .int .i64 (2), .int .i64 (1), (Value.slice none 0 0), (Value.slice none 0 0), (Value.slice none 0 0), (Value.string ⟨#[98]⟩), .int .i64 (3), .int .i64 (3), (Value.slice none 0 0), (Value.slice (some ⟨5, 0, none⟩) 1 1), (Value.slice none 0 0), (Value.string ⟨#[99]⟩), .int .i64 (2), .int .i64 (0), (Value.slice none 0 0), (Value.slice none 0 0), (Value.slice (some ⟨6, 0, none⟩) 1 1)] none)), (2, (ABlk.cellsT true [.int .i64 (1), (Value.slice none 0 0), .bool false] none)), (1, (ABlk.cellsT true [.int .i64 (1)] none)), (0, (ABlk.cellsT true [.int .i64 (4)] none))]⟩, (Value.tuple #[(Value.slice (some ⟨7, 0, none⟩) 4 1), .int .i64 (0)]), [(7, (ABlk.cellsT false [.int .i64 (0), .int .i64 (2300), .int .i64 (-2300), .int .i64 (0)] none))]⟩
theorem m4x0e0_ok : mfB (evCall (tabT Tryd.prog) (tabF Tryd.prog) 300 kpT hm3 60) m4x0e0 = true := by kernel_rfl
theorem m4x0e1_ok : mfB (evCall (tabT Tryd.prog) (tabF Tryd.prog) 300 kpT hm3 60) m4x0e1 = true := by kernel_rfl
def m4x0L : List MF := [m4x0e0, m4x0e1]
theorem m4x0L_ok : CallOK Tryd.prog (memoF m4x0L) := memoF_ok (evCall_sound (tabT_ok _) (tabF_ok _) mixed 300 kpT hm3_ok 60) (by
  intro e he
  simp only [m4x0L, List.mem_cons, List.not_mem_nil, or_false] at he
  rcases he with rfl | rfl
  · exact mfB_ok m4x0e0_ok
  · exact mfB_ok m4x0e1_ok)
noncomputable def hm4 : Value → List Value → AH → Option (Value × AH) := orH (hm3) (memoF m4x0L)
theorem hm4_ok : CallOK Tryd.prog hm4 := orH_ok (hm3_ok) m4x0L_ok
def m5x0e0 : MF := ⟨19, [(Value.agg #[.int .i64 (4), (Value.slice (some ⟨0, 0, none⟩) 1 1), .int .i64 (0), .int .i64 (1), .int .i64 (0), .int .i64 (4), .int .i64 (1), .int .i64 (2), (Value.slice (some ⟨1, 0, none⟩) 1 1), (Value.slice (some ⟨2, 0, none⟩) 1 3), (Value.slice (some ⟨3, 0, none⟩) 3 6), (Value.slice none 0 0), .int .i64 (1), .int .i64 (8), .bool true, (Value.slice (some ⟨4, 0, none⟩) 2 2), .int .i64 (100), .int .i64 (1), .bool true, .int .i64 (0), .int .i64 (100), .int .i64 (1000), .int .i64 (0), .int .i64 (0), .int .i64 (0), .int .i64 (1), .int .i64 (0), .bool false, (Value.slice none 0 0), (Value.slice none 0 0), .bool false, .int .i64 (1), .bool false, .int .i64 (0), .bool false, .int .i64 (0), .int .i64 (0), .int .i64 (0), .bool false, .bool false, .bool false, .int .i64 (5), .int .i64 (1), .int .i64 (0), .bool false, .bool false]), .int .i64 (480), .int .i64 (0), .int .i64 (1), .int .i64 (2), .int .i64 (1), .int .i64 (-1)], ⟨7, [(6, (ABlk.cellsT true [.int .i64 (0)] none)), (5, (ABlk.cellsT true [.int .i64 (0)] none)), (4, (ABlk.cellsT true [.int .i64 (5), .int .i64 (2000), .int .i64 (6), .int .i64 (3000)] none)), (3, (ABlk.cellsT true [(Value.string ⟨#[97]⟩), .int .i64 (2), .int .i64 (1), (Value.slice none 0 0), (Value.slice none 0 0), (Value.slice none 0 0), (Value.string ⟨#[98]⟩), .int .i64 (3), .int .i64 (3), (Value.slice none 0 0), (Value.slice (some ⟨5, 0, none⟩) 1 1), (Value.slice none 0 0), (Value.string ⟨#[99]⟩), .int .i64 (2), .int .i64 (0), (Value.slice none 0 0), (Value.slice none 0 0), (Value.slice (some ⟨6, 0, none⟩) 1 1)] none)), (2, (ABlk.cellsT true [.int .i64 (1), (Value.slice none 0 0), .bool false] none)), (1, (ABlk.cellsT true [.int .i64 (1)] none)), (0, (ABlk.cellsT true [.int .i64 (4)] none))]⟩, (Value.tuple #[(Value.slice (some ⟨7, 0, none⟩) 4 1), .int .i64 (0)]), [(7, (ABlk.cellsT false [.int .i64 (0), .int .i64 (2300), .int .i64 (-2300), .int .i64 (0)] none))]⟩
theorem m5x0e0_ok : mfB (evCall (tabT Tryd.prog) (tabF Tryd.prog) 300 kpT hm4 60) m5x0e0 = true := by kernel_rfl
def m5x0L : List MF := [m5x0e0]
theorem m5x0L_ok : CallOK Tryd.prog (memoF m5x0L) := memoF_ok (evCall_sound (tabT_ok _) (tabF_ok _) mixed 300 kpT hm4_ok 60) (by
  intro e he
  simp only [m5x0L, List.mem_cons, List.not_mem_nil, or_false] at he
  rcases he with rfl
  · exact mfB_ok m5x0e0_ok)
noncomputable def hm5 : Value → List Value → AH → Option (Value × AH) := orH (hm4) (memoF m5x0L)
theorem hm5_ok : CallOK Tryd.prog hm5 := orH_ok (hm4_ok) m5x0L_ok
def m6x0e0 : MF := ⟨8, [], ⟨0, []⟩, .bool true, []⟩
theorem m6x0e0_ok : mfB (evCall (tabT Tryd.prog) (tabF Tryd.prog) 300 kpT hm5 60) m6x0e0 = true := by kernel_rfl
def m6x0L : List MF := [m6x0e0]
theorem m6x0L_ok : CallOK Tryd.prog (memoF m6x0L) := memoF_ok (evCall_sound (tabT_ok _) (tabF_ok _) mixed 300 kpT hm5_ok 60) (by
  intro e he
  simp only [m6x0L, List.mem_cons, List.not_mem_nil, or_false] at he
  rcases he with rfl
  · exact mfB_ok m6x0e0_ok)
noncomputable def hm6 : Value → List Value → AH → Option (Value × AH) := orH (hm5) (memoF m6x0L)
theorem hm6_ok : CallOK Tryd.prog hm6 := orH_ok (hm5_ok) m6x0L_ok

end Go.Proofs.YtbofnpohamajpaaDoor
