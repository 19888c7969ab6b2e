/-
  What is proved: nothing of the program. This text lays the cells of the package-level variables that runs read.
-/
import Derived.WalkKit
namespace Go.Proofs.YtcdlbcjfmneglaaGreatDoor
open Go.RowKit

/-- The variables that runs read: the cells that lie at their blocks. -/
def GV : Nat → Option (List Value)
  | 0 => some [.string ⟨#[]⟩, .string ⟨#[]⟩, .string ⟨#[116]⟩, .string ⟨#[116, 116]⟩, .string ⟨#[116, 116]⟩, .string ⟨#[110]⟩, .string ⟨#[]⟩, .string ⟨#[]⟩, .string ⟨#[]⟩, .string ⟨#[]⟩, .string ⟨#[]⟩, .string ⟨#[]⟩, .string ⟨#[110, 110]⟩, .string ⟨#[110, 110]⟩, .string ⟨#[116, 110, 110]⟩, .string ⟨#[110]⟩, .string ⟨#[]⟩, .string ⟨#[]⟩, .string ⟨#[]⟩, .string ⟨#[]⟩, .string ⟨#[]⟩, .string ⟨#[]⟩, .string ⟨#[]⟩, .string ⟨#[]⟩, .string ⟨#[]⟩]
  | 1 => some [.int .i64 0, .int .i64 1, .int .i64 2, .int .i64 0, .int .i64 2, .int .i64 1, .int .i64 1, .int .i64 0, .int .i64 2, .int .i64 1, .int .i64 2, .int .i64 0, .int .i64 2, .int .i64 0, .int .i64 1, .int .i64 2, .int .i64 1, .int .i64 0]
  | 2 => some [.int .i64 0, .int .i64 0, .int .i64 3, .int .i64 4, .int .i64 2, .int .i64 1]
  | 3 => some [.int .u64 1, .int .u64 10, .int .u64 100, .int .u64 1000, .int .u64 10000, .int .u64 100000, .int .u64 1000000, .int .u64 10000000, .int .u64 100000000, .int .u64 1000000000, .int .u64 10000000000, .int .u64 100000000000, .int .u64 1000000000000, .int .u64 10000000000000, .int .u64 100000000000000, .int .u64 1000000000000000, .int .u64 10000000000000000, .int .u64 100000000000000000, .int .u64 1000000000000000000, .int .u64 10000000000000000000]
  | 5 => some [.int .u8 0, .int .u8 1, .int .u8 28, .int .u8 2, .int .u8 29, .int .u8 14, .int .u8 24, .int .u8 3, .int .u8 30, .int .u8 22, .int .u8 20, .int .u8 15, .int .u8 25, .int .u8 17, .int .u8 4, .int .u8 8, .int .u8 31, .int .u8 27, .int .u8 13, .int .u8 23, .int .u8 21, .int .u8 19, .int .u8 16, .int .u8 7, .int .u8 26, .int .u8 12, .int .u8 18, .int .u8 6, .int .u8 11, .int .u8 5, .int .u8 10, .int .u8 9]
  | 6 => some [.int .u8 0, .int .u8 1, .int .u8 56, .int .u8 2, .int .u8 57, .int .u8 49, .int .u8 28, .int .u8 3, .int .u8 61, .int .u8 58, .int .u8 42, .int .u8 50, .int .u8 38, .int .u8 29, .int .u8 17, .int .u8 4, .int .u8 62, .int .u8 47, .int .u8 59, .int .u8 36, .int .u8 45, .int .u8 43, .int .u8 51, .int .u8 22, .int .u8 53, .int .u8 39, .int .u8 33, .int .u8 30, .int .u8 24, .int .u8 18, .int .u8 12, .int .u8 5, .int .u8 63, .int .u8 55, .int .u8 48, .int .u8 27, .int .u8 60, .int .u8 41, .int .u8 37, .int .u8 16, .int .u8 46, .int .u8 35, .int .u8 44, .int .u8 21, .int .u8 52, .int .u8 32, .int .u8 23, .int .u8 11, .int .u8 54, .int .u8 26, .int .u8 40, .int .u8 15, .int .u8 34, .int .u8 20, .int .u8 31, .int .u8 10, .int .u8 25, .int .u8 14, .int .u8 19, .int .u8 9, .int .u8 13, .int .u8 8, .int .u8 7, .int .u8 6]
  | _ => none

def inN (l : List Nat) (n : Nat) : Bool :=
  match l with
  | [] => false
  | a :: r => if Nat.beq a n then true else inN r n

/-- Functions behind whose calls new blocks are kept in sight. -/
def kpT (f : FuncId) : Bool := inN [42, 43, 45, 52, 80, 92, 119, 127, 128, 129, 130, 131, 132, 144, 145, 146, 148, 162, 166, 167, 169, 170, 171, 172, 177, 178, 182, 184, 189, 191, 193, 194, 195, 196, 198, 199, 200, 201, 202, 203, 204, 205, 206, 207, 208, 210, 211, 212, 228, 229, 230, 231, 232, 233, 234, 235, 236, 237, 238, 239, 241, 243, 244, 245, 252, 253, 264, 265, 267, 268, 283, 299, 300, 301, 302, 303, 307] f

/-- Functions that write: no use in trying them over a memory that is only read. -/
def wrT (f : FuncId) : Bool := inN [43, 45, 80, 127, 128, 129, 130, 131, 132, 144, 145, 146, 148, 162, 166, 167, 170, 171, 177, 178, 182, 184, 191, 193, 194, 195, 196, 198, 199, 200, 201, 202, 203, 204, 205, 206, 207, 208, 210, 211, 212, 230, 232, 235, 237, 239, 243, 244, 264, 265, 267, 268, 283, 299, 300, 301, 302, 303, 307] f

/-- Types whose new blocks tell their type. -/
def ubT (t : TypeId) : Bool := inN [224, 225] t

/-- Functions that leave only those new blocks that something leads to. -/
def gcT (_f : FuncId) : Bool := true

end Go.Proofs.YtcdlbcjfmneglaaGreatDoor
