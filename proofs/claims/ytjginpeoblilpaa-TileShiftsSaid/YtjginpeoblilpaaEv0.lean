/-
  What is proved: nothing of the program. This text lays the cells of the package-level variables that runs read.
-/
import Derived.WalkKit
namespace Go.Proofs.Ytjginpeoblilpaa
open Go.RowKit
set_option linter.unusedSimpArgs false
set_option linter.unusedVariables false

/-- The variables that runs read: the cells that lie at their blocks. -/
def GV : Nat → Option (List Value)
  | _ => none

def inN (l : List Nat) (n : Nat) : Bool :=
  match l with
  | [] => false
  | a :: r => if Nat.beq a n then true else inN r n

/-- Functions behind whose calls new blocks are kept in sight. -/
def kpT (f : FuncId) : Bool := inN [23, 77, 79, 86, 87, 95, 96, 100, 109, 110, 111, 112, 113, 117] f

/-- Functions that write: no use in trying them over a memory that is only read. -/
def wrT (f : FuncId) : Bool := inN [77, 79, 95, 96, 100, 109, 110, 111, 112, 113, 117] f

/-- Functions that make lists longer as shared rows. -/
def frT (f : FuncId) : Bool := inN [] f

/-- Types whose new blocks tell their type. -/
def ubT (t : TypeId) : Bool := inN [] t

/-- Functions that leave only those new blocks that something leads to. -/
def gcT (f : FuncId) : Bool := inN [0, 1, 2, 3, 4, 5, 6, 7, 8, 9, 10, 11, 12, 13, 16, 17, 18, 19, 27, 50, 51, 52, 53, 55, 56, 57, 59, 61, 62, 63, 65, 67, 76, 84, 85, 88, 89, 90, 91, 92, 93, 97, 98, 99, 101, 102, 103, 104, 105, 106, 107, 108, 109, 110, 111, 112, 113, 114, 115, 116, 117, 118] f

end Go.Proofs.Ytjginpeoblilpaa
