/-
  What is proved: nothing of the program. This text lays the cells of the package-level variables that runs read.
-/
import Derived.WalkKit
namespace Go.Proofs.YtblbjdobhlgghaaGreatDoor
open Go.RowKit

/-- The variables that runs read: the cells that lie at their blocks. -/
def GV : Nat → Option (List Value)
  | 0 => some [.int .i64 0, .int .i64 0, .int .i64 3, .int .i64 4, .int .i64 2, .int .i64 1]
  | 1 => some [.int .i64 0, .int .i64 1, .int .i64 2, .int .i64 0, .int .i64 2, .int .i64 1, .int .i64 1, .int .i64 0, .int .i64 2, .int .i64 1, .int .i64 2, .int .i64 0, .int .i64 2, .int .i64 0, .int .i64 1, .int .i64 2, .int .i64 1, .int .i64 0]
  | _ => none

/-- Functions behind whose calls new blocks are kept in sight. -/
def kpT (f : FuncId) : Bool := Nat.beq f 148 || Nat.beq f 197 || Nat.beq f 198

end Go.Proofs.YtblbjdobhlgghaaGreatDoor
