/-
  What is proved: nothing of the program. This text lays the cells of the package-level variables that runs read.
-/
import Derived.WalkKit
namespace Go.Proofs.YtmmhoegggmmbbaaGreatDoor
open Go.RowKit

/-- The variables that runs read: the cells that lie at their blocks. -/
def GV : Nat → Option (List Value)
  | 0 => some [.string ⟨#[115, 101, 116]⟩, .string ⟨#[115, 117, 105, 116, 115]⟩, .string ⟨#[114, 101, 100, 115]⟩, .string ⟨#[102, 111, 114, 109]⟩, .string ⟨#[112, 97, 116, 116, 101, 114, 110]⟩, .string ⟨#[101, 120, 99, 108, 117, 100, 101, 115]⟩, .string ⟨#[105, 109, 112, 108, 105, 101, 115]⟩, .string ⟨#[119, 104, 101, 110]⟩, .string ⟨#[109, 105, 110, 111, 114]⟩, .string ⟨#[108, 101, 97, 115, 116]⟩, .string ⟨#[115, 99, 97, 108, 101]⟩, .string ⟨#[108, 105, 109, 105, 116]⟩, .string ⟨#[112, 97, 121]⟩, .string ⟨#[112, 108, 97, 99, 101, 115]⟩, .string ⟨#[102, 101, 101, 100]⟩, .string ⟨#[112, 108, 97, 121]⟩]
  | 1 => some [.string ⟨#[]⟩, .string ⟨#[]⟩, .string ⟨#[116]⟩, .string ⟨#[116, 116]⟩, .string ⟨#[116, 116]⟩, .string ⟨#[110]⟩, .string ⟨#[]⟩, .string ⟨#[]⟩, .string ⟨#[]⟩, .string ⟨#[]⟩, .string ⟨#[]⟩, .string ⟨#[]⟩, .string ⟨#[110, 110]⟩, .string ⟨#[110, 110]⟩, .string ⟨#[116, 110, 110]⟩, .string ⟨#[110]⟩, .string ⟨#[]⟩, .string ⟨#[]⟩, .string ⟨#[]⟩, .string ⟨#[]⟩, .string ⟨#[]⟩, .string ⟨#[]⟩, .string ⟨#[]⟩, .string ⟨#[]⟩, .string ⟨#[]⟩]
  | 2 => some [.string ⟨#[]⟩, .string ⟨#[116, 114, 117, 101]⟩, .string ⟨#[110, 111, 116]⟩, .string ⟨#[97, 110, 100]⟩, .string ⟨#[111, 114]⟩, .string ⟨#[108, 101, 97, 115, 116]⟩, .string ⟨#[102, 111, 114, 109]⟩, .string ⟨#[102, 108, 97, 103]⟩, .string ⟨#[115, 101, 108, 102]⟩, .string ⟨#[99, 108, 111, 115, 101, 100]⟩, .string ⟨#[108, 97, 115, 116]⟩, .string ⟨#[110, 117, 109, 98, 101, 114]⟩, .string ⟨#[115, 117, 109]⟩, .string ⟨#[116, 105, 109, 101, 115]⟩, .string ⟨#[105, 102]⟩, .string ⟨#[117, 112]⟩, .string ⟨#[103, 114, 111, 117, 112, 115]⟩, .string ⟨#[116, 105, 108, 101, 115]⟩, .string ⟨#[98, 111, 110, 117, 115]⟩, .string ⟨#[119, 105, 110, 100]⟩, .string ⟨#[116, 119, 105, 110, 115]⟩, .string ⟨#[114, 111, 119]⟩, .string ⟨#[99, 111, 108, 111, 117, 114, 115]⟩, .string ⟨#[115, 117, 105, 116, 115]⟩, .string ⟨#[119, 97, 105, 116, 115]⟩]
  | 3 => some [.string ⟨#[]⟩, .string ⟨#[109, 101, 108, 100, 115]⟩, .string ⟨#[112, 97, 105, 114, 115]⟩, .string ⟨#[101, 97, 99, 104]⟩, .string ⟨#[107, 110, 105, 116, 116, 101, 100]⟩, .string ⟨#[115, 116, 114, 97, 105, 103, 104, 116]⟩, .string ⟨#[108, 105, 115, 116]⟩]
  | 4 => some [.int .i64 0, .int .i64 0, .int .i64 3, .int .i64 4, .int .i64 2, .int .i64 1]
  | 5 => some [.int .i64 0, .int .i64 1, .int .i64 2, .int .i64 0, .int .i64 2, .int .i64 1, .int .i64 1, .int .i64 0, .int .i64 2, .int .i64 1, .int .i64 2, .int .i64 0, .int .i64 2, .int .i64 0, .int .i64 1, .int .i64 2, .int .i64 1, .int .i64 0]
  | _ => none

def inN (l : List Nat) (n : Nat) : Bool :=
  match l with
  | [] => false
  | a :: r => if Nat.beq a n then true else inN r n

/-- Functions behind whose calls new blocks are kept in sight: all but these. -/
def kpT (f : FuncId) : Bool := !(inN [3, 4, 5, 6, 8, 9, 13, 14, 17, 19, 20, 21, 25, 28, 29, 30, 31, 32, 33, 34, 35, 36, 37, 38, 39, 40, 41, 42, 44, 55, 56, 57, 58, 59, 60, 61, 62, 63, 64, 65, 66, 67, 68, 69, 70, 71, 72, 73, 74, 75, 77, 78, 92, 95, 98, 99, 100, 52, 158, 159, 160, 161, 164, 165, 104, 107, 108, 109, 110, 111, 112, 113, 114, 115, 116, 117, 118, 119, 120, 122, 123, 126, 132, 135, 137, 140, 142, 143, 146, 147, 148, 149, 152, 156, 157, 166, 167, 177, 179, 180, 181, 182, 183, 184, 187, 188, 191, 193, 194, 195, 206, 209, 210, 213, 217, 219, 224, 225, 226, 227, 228, 236, 239] f)

/-- Functions that write: no use in trying them over a memory that is only read. -/
def wrT (f : FuncId) : Bool := inN [24, 25, 27, 45, 46, 48, 49, 51, 53, 54, 79, 103, 106, 144, 153, 154, 158, 159, 160, 161, 162, 163, 164, 165, 190] f

/-- Types whose new blocks tell their type. -/
def ubT (t : TypeId) : Bool := inN [87, 88, 89, 90] t

/-- Functions that leave only those new blocks that something leads to. -/
def gcT (f : FuncId) : Bool := inN [7, 10, 22, 24, 26, 48, 49, 50, 51, 53, 54, 76, 102, 105, 106, 186, 190] f

end Go.Proofs.YtmmhoegggmmbbaaGreatDoor
