/-
  What is proved: nothing of the program. This text lays the cells of the package-level variables that runs read.
-/
import Derived.WalkKit
namespace Go.Proofs.YtbdbijbfcdaghaaGreatDoor
open Go.RowKit

/-- The variables that runs read: the cells that lie at their blocks. -/
def GV : Nat → Option (List Value)
  | 0 => some [.int .i64 0, .int .i64 1, .int .i64 2, .int .i64 0, .int .i64 2, .int .i64 1, .int .i64 1, .int .i64 0, .int .i64 2, .int .i64 1, .int .i64 2, .int .i64 0, .int .i64 2, .int .i64 0, .int .i64 1, .int .i64 2, .int .i64 1, .int .i64 0]
  | 1 => some [.int .i64 0, .int .i64 1, .int .i64 2, .int .i64 0, .int .i64 2, .int .i64 1, .int .i64 1, .int .i64 0, .int .i64 2, .int .i64 1, .int .i64 2, .int .i64 0, .int .i64 2, .int .i64 0, .int .i64 1, .int .i64 2, .int .i64 1, .int .i64 0]
  | 2 => some [.int .i64 0, .int .i64 0, .int .i64 3, .int .i64 4, .int .i64 2, .int .i64 1]
  | _ => none

def inN (l : List Nat) (n : Nat) : Bool :=
  match l with
  | [] => false
  | a :: r => if Nat.beq a n then true else inN r n

/-- Functions behind whose calls new blocks are kept in sight. -/
def kpT (f : FuncId) : Bool := inN [21, 54, 55, 43, 70, 102, 131] f

/-- Functions that write: no use in trying them over a memory that is only read. -/
def wrT (f : FuncId) : Bool := inN [21, 26, 40, 43, 52, 54, 55, 70, 102, 131] f

end Go.Proofs.YtbdbijbfcdaghaaGreatDoor
