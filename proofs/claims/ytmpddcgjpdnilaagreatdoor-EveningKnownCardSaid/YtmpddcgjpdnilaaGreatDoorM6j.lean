/-
  What is proved: what functions answer for examples; this text joins the known answers.
-/
import Derived.Test.YtmpddcgjpdnilaaGreatDoorM6x0
import Derived.Test.YtmpddcgjpdnilaaGreatDoorM6x1
namespace Go.Proofs.YtmpddcgjpdnilaaGreatDoor
open Go.RowKit

noncomputable def hm6 : Value → List Value → AH → Option (Value × AH) := orH (orH (hm5) (memoF m6x0L)) (memoF m6x1L)
theorem hm6_ok : CallOK Tryz.prog hm6 := orH_ok (orH_ok (hm5_ok) m6x0L_ok) m6x1L_ok
def m7x0e0 : MF := ⟨4, [], ⟨0, []⟩, .bool true, []⟩
def m7x0e1 : MF := ⟨14, [(Value.agg #[.int .i64 (4), (Value.slice (some ⟨0, 0, none⟩) 1 1), .int .i64 (0), .int .i64 (1), .int .i64 (0), .int .i64 (4), .int .i64 (1), .int .i64 (2), (Value.slice (some ⟨1, 0, none⟩) 1 1), (Value.slice (some ⟨2, 0, none⟩) 1 3), (Value.slice (some ⟨3, 0, none⟩) 3 6), (Value.slice none 0 0), .int .i64 (1), .int .i64 (8), .bool true, (Value.slice (some ⟨4, 0, none⟩) 2 2), .int .i64 (100), .int .i64 (1), .bool true, .int .i64 (0), .int .i64 (100), .int .i64 (1000), .int .i64 (3000), .int .i64 (1000), .int .i64 (25000), .int .i64 (1), .int .i64 (3), .bool true, (Value.slice (some ⟨5, 0, none⟩) 4 1), (Value.slice none 0 0), .bool false, .int .i64 (1), .bool false, .int .i64 (0), .bool false, .int .i64 (0), .int .i64 (0), .int .i64 (0), .bool false, .bool false, .bool false, .int .i64 (5), .int .i64 (1), .int .i64 (0), .bool false, .bool false, (Value.slice (some ⟨6, 0, none⟩) 4 1), .int .i64 (2), .int .i64 (0), .int .i64 (0), .int .i64 (0), .int .i64 (4)])], ⟨9, [(8, (ABlk.cellsT true [.int .i64 (0)] none)), (7, (ABlk.cellsT true [.int .i64 (0)] none)), (6, (ABlk.cellsT true [.int .i64 (25000), .int .i64 (27700), .int .i64 (19000), .int .i64 (28300)] none)), (5, (ABlk.cellsT true [.int .i64 (20000), .int .i64 (10000), .int .i64 (-10000), .int .i64 (-20000)] none)), (4, (ABlk.cellsT true [.int .i64 (5), .int .i64 (2000), .int .i64 (6), .int .i64 (3000)] none)), (3, (ABlk.cellsT true [(Value.string ⟨#[97]⟩), .int .i64 (2), .int .i64 (1), (Value.slice none 0 0), (Value.slice none 0 0), (Value.slice none 0 0), (Value.string ⟨#[98]⟩), .int .i64 (3), .int .i64 (3), (Value.slice none 0 0), (Value.slice (some ⟨7, 0, none⟩) 1 1), (Value.slice none 0 0), (Value.string ⟨#[99]⟩), .int .i64 (2), .int .i64 (0), (Value.slice none 0 0), (Value.slice none 0 0), (Value.slice (some ⟨8, 0, none⟩) 1 1)] none)), (2, (ABlk.cellsT true [.int .i64 (1), (Value.slice none 0 0), .bool false] none)), (1, (ABlk.cellsT true [.int .i64 (1)] none)), (0, (ABlk.cellsT true [.int .i64 (4)] none))]⟩, .bool true, []⟩
def m7x0e2 : MF := ⟨15, [(Value.agg #[.int .i64 (4), (Value.slice (some ⟨0, 0, none⟩) 1 1), .int .i64 (0), .int .i64 (1), .int .i64 (0), .int .i64 (4), .int .i64 (1), .int .i64 (2), (Value.slice (some ⟨1, 0, none⟩) 1 1), (Value.slice (some ⟨2, 0, none⟩) 1 3), (Value.slice (some ⟨3, 0, none⟩) 3 6), (Value.slice none 0 0), .int .i64 (1), .int .i64 (8), .bool true, (Value.slice (some ⟨4, 0, none⟩) 2 2), .int .i64 (100), .int .i64 (1), .bool true, .int .i64 (0), .int .i64 (100), .int .i64 (1000), .int .i64 (3000), .int .i64 (1000), .int .i64 (25000), .int .i64 (1), .int .i64 (3), .bool true, (Value.slice (some ⟨5, 0, none⟩) 4 1), (Value.slice none 0 0), .bool false, .int .i64 (1), .bool false, .int .i64 (0), .bool false, .int .i64 (0), .int .i64 (0), .int .i64 (0), .bool false, .bool false, .bool false, .int .i64 (5), .int .i64 (1), .int .i64 (0), .bool false, .bool false, (Value.slice (some ⟨6, 0, none⟩) 4 1), .int .i64 (0), .int .i64 (0), .int .i64 (0), .int .i64 (0), .int .i64 (0)])], ⟨9, [(8, (ABlk.cellsT true [.int .i64 (0)] none)), (7, (ABlk.cellsT true [.int .i64 (0)] none)), (6, (ABlk.cellsT true [.int .i64 (25000), .int .i64 (25000), .int .i64 (25000), .int .i64 (25000)] none)), (5, (ABlk.cellsT true [.int .i64 (20000), .int .i64 (10000), .int .i64 (-10000), .int .i64 (-20000)] none)), (4, (ABlk.cellsT true [.int .i64 (5), .int .i64 (2000), .int .i64 (6), .int .i64 (3000)] none)), (3, (ABlk.cellsT true [(Value.string ⟨#[97]⟩), .int .i64 (2), .int .i64 (1), (Value.slice none 0 0), (Value.slice none 0 0), (Value.slice none 0 0), (Value.string ⟨#[98]⟩), .int .i64 (3), .int .i64 (3), (Value.slice none 0 0), (Value.slice (some ⟨7, 0, none⟩) 1 1), (Value.slice none 0 0), (Value.string ⟨#[99]⟩), .int .i64 (2), .int .i64 (0), (Value.slice none 0 0), (Value.slice none 0 0), (Value.slice (some ⟨8, 0, none⟩) 1 1)] none)), (2, (ABlk.cellsT true [.int .i64 (1), (Value.slice none 0 0), .bool false] none)), (1, (ABlk.cellsT true [.int .i64 (1)] none)), (0, (ABlk.cellsT true [.int .i64 (4)] none))]⟩, .bool true, []⟩
theorem m7x0e0_ok : mfB (evCall (tabT Tryz.prog) (tabF Tryz.prog) 300 kpT hm6 60) m7x0e0 = true := by kernel_rfl
theorem m7x0e1_ok : mfB (evCall (tabT Tryz.prog) (tabF Tryz.prog) 300 kpT hm6 60) m7x0e1 = true := by kernel_rfl
theorem m7x0e2_ok : mfB (evCall (tabT Tryz.prog) (tabF Tryz.prog) 300 kpT hm6 60) m7x0e2 = true := by kernel_rfl
def m7x0L : List MF := [m7x0e0, m7x0e1, m7x0e2]
theorem m7x0L_ok : CallOK Tryz.prog (memoF m7x0L) := memoF_ok (evCall_sound (tabT_ok _) (tabF_ok _) mixed 300 kpT hm6_ok 60) (by
  intro e he
  simp only [m7x0L, List.mem_cons, List.not_mem_nil, or_false] at he
  rcases he with rfl | rfl | rfl
  · exact mfB_ok m7x0e0_ok
  · exact mfB_ok m7x0e1_ok
  · exact mfB_ok m7x0e2_ok)
noncomputable def hm7 : Value → List Value → AH → Option (Value × AH) := orH (hm6) (memoF m7x0L)
theorem hm7_ok : CallOK Tryz.prog hm7 := orH_ok (hm6_ok) m7x0L_ok

end Go.Proofs.YtmpddcgjpdnilaaGreatDoor
