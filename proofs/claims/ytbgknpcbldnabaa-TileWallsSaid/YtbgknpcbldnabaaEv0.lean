/-
  What is proved: nothing of the program. This text lays the cells of the package-level variables that runs read.
-/
import Derived.WalkKit
namespace Go.Proofs.Ytbgknpcbldnabaa
open Go.RowKit
set_option linter.unusedSimpArgs false
set_option linter.unusedVariables false

/-- The variables that runs read: the cells that lie at their blocks. -/
def GV : Nat → Option (List Value)
  | _ => none

def inN (l : List Nat) (n : Nat) : Bool :=
  match l with
  | [] => false
  | a :: r => if Nat.beq a n then true else inN r n

/-- Functions behind whose calls new blocks are kept in sight. -/
def kpT (f : FuncId) : Bool := inN [31, 42, 53, 54, 63, 64, 65, 66, 67] f

/-- Functions that write: no use in trying them over a memory that is only read. -/
def wrT (f : FuncId) : Bool := inN [6, 31, 42, 63, 64, 65, 66, 67] f

/-- Functions that make lists longer as shared rows. -/
def frT (f : FuncId) : Bool := inN [] f

/-- Types whose new blocks tell their type. -/
def ubT (t : TypeId) : Bool := inN [] t

/-- Functions that leave only those new blocks that something leads to. -/
def gcT (f : FuncId) : Bool := inN [0, 1, 2, 3, 4, 5, 6, 9, 12, 13, 16, 18, 19, 20, 21, 22, 23, 24, 25, 26, 27, 28, 29, 30, 32, 34, 35, 36, 37, 38, 39, 40, 41, 43, 44, 45, 46, 47, 48, 49, 50, 51, 52, 53, 54, 55, 56, 57, 58, 59, 60, 61, 62, 63, 64, 65, 66, 67, 68, 69, 70, 71] f

end Go.Proofs.Ytbgknpcbldnabaa
