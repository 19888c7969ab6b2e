/-
  What is proved: what functions answer for examples of the small set.
-/
import Derived.Test.YtmmhoegggmmbbaaGreatDoorM4j
namespace Go.Proofs.YtmmhoegggmmbbaaGreatDoor
open Go.RowKit

def m5x4e0 : MF := ⟨16, [(Value.string ⟨#[115, 101, 116, 32, 51, 32, 49, 32, 52, 32, 50, 32, 48, 32, 49, 32, 48, 10, 115, 117, 105, 116, 115, 32, 48, 51, 10, 114, 101, 100, 115, 32, 49, 10, 102, 111, 114, 109, 32, 109, 101, 108, 100, 115, 10, 112, 97, 116, 116, 101, 114, 110, 32, 112, 108, 97, 105, 110, 32, 49, 32, 49, 10, 112, 97, 116, 116, 101, 114, 110, 32, 100, 114, 97, 103, 111, 110, 32, 50, 32, 49, 10, 119, 104, 101, 110, 32, 103, 114, 111, 117, 112, 115, 32, 54, 32, 48, 32, 49, 32, 51, 10, 112, 97, 116, 116, 101, 114, 110, 32, 113, 117, 105, 101, 116, 32, 49, 32, 48, 10, 119, 104, 101, 110, 32, 97, 110, 100, 32, 115, 101, 108, 102, 32, 99, 108, 111, 115, 101, 100, 10, 109, 105, 110, 111, 114, 32, 116, 105, 109, 101, 115, 32, 110, 117, 109, 98, 101, 114, 32, 49, 48, 32, 115, 117, 109, 32, 110, 117, 109, 98, 101, 114, 32, 49, 32, 119, 97, 105, 116, 115, 10, 108, 101, 97, 115, 116, 32, 49, 10, 115, 99, 97, 108, 101, 32, 49, 32, 49, 32, 48, 10, 112, 97, 121, 32, 49, 32, 48, 32, 48, 32, 48, 32, 48, 32, 48, 32, 48, 32, 48, 32, 49, 32, 48, 32, 48, 10, 112, 108, 97, 121, 32, 48, 32, 49, 32, 48, 32, 48, 32, 48, 32, 48, 32, 48, 32, 48, 32, 48, 32, 48, 32, 48, 32, 53, 32, 49, 32, 48, 32, 48, 32, 48, 10]⟩)], ⟨0, []⟩, (Value.tuple #[(Value.agg #[.int .i64 (0), (Value.slice none 0 0), .int .i64 (0), .int .i64 (0), .int .i64 (0), .int .i64 (0), .int .i64 (0), .int .i64 (0), (Value.slice none 0 0), (Value.slice none 0 0), (Value.slice none 0 0), (Value.slice none 0 0), .int .i64 (0), .int .i64 (0), .bool false, (Value.slice none 0 0), .int .i64 (0), .int .i64 (0), .bool false, .int .i64 (0), .int .i64 (0), .int .i64 (0), .int .i64 (0), .int .i64 (0), .int .i64 (0), .int .i64 (0), .int .i64 (0), .bool false, (Value.slice none 0 0), (Value.slice none 0 0), .bool false, .int .i64 (0), .bool false, .int .i64 (0), .bool false, .int .i64 (0), .int .i64 (0), .int .i64 (0), .bool false, .bool false, .bool false, .int .i64 (0), .int .i64 (0), .int .i64 (0), .bool false, .bool false]), .int .i64 (2), .int .i64 (3)]), []⟩
theorem m5x4e0_ok : mfB (evCall (tabT Tryz.prog) (tabF Tryz.prog) 300 kpT hm4 60) m5x4e0 = true := by kernel_rfl
def m5x4L : List MF := [m5x4e0]
theorem m5x4L_ok : CallOK Tryz.prog (memoF m5x4L) := memoF_ok (evCall_sound (tabT_ok _) (tabF_ok _) mixed 300 kpT hm4_ok 60) (by
  intro e he
  simp only [m5x4L, List.mem_cons, List.not_mem_nil, or_false] at he
  rcases he with rfl
  · exact mfB_ok m5x4e0_ok)

end Go.Proofs.YtmmhoegggmmbbaaGreatDoor
