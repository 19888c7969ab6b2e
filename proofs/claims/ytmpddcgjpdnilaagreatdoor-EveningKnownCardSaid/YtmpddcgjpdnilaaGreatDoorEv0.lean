/-
  What is proved: nothing of the program. This text lays the cells of the package-level variables that runs read.
-/
import Derived.WalkKit
namespace Go.Proofs.YtmpddcgjpdnilaaGreatDoor
open Go.RowKit
set_option linter.unusedSimpArgs false
set_option linter.unusedVariables false

/-- The variables that runs read: the cells that lie at their blocks. -/
def GV : Nat → Option (List Value)
  | 0 => some [.string ⟨#[]⟩, .string ⟨#[]⟩, .string ⟨#[116]⟩, .string ⟨#[116, 116]⟩, .string ⟨#[116, 116]⟩, .string ⟨#[110]⟩, .string ⟨#[]⟩, .string ⟨#[]⟩, .string ⟨#[]⟩, .string ⟨#[]⟩, .string ⟨#[]⟩, .string ⟨#[]⟩, .string ⟨#[110, 110]⟩, .string ⟨#[110, 110]⟩, .string ⟨#[116, 110, 110]⟩, .string ⟨#[110]⟩, .string ⟨#[]⟩, .string ⟨#[]⟩, .string ⟨#[]⟩, .string ⟨#[]⟩, .string ⟨#[]⟩, .string ⟨#[]⟩, .string ⟨#[]⟩, .string ⟨#[]⟩, .string ⟨#[]⟩]
  | _ => none

def inN (l : List Nat) (n : Nat) : Bool :=
  match l with
  | [] => false
  | a :: r => if Nat.beq a n then true else inN r n

/-- Functions behind whose calls new blocks are kept in sight. -/
def kpT (f : FuncId) : Bool := inN [71, 72, 73, 75, 77, 81, 96, 107, 108, 109, 110, 115, 117, 123, 128, 129, 130, 131, 145, 149, 175, 176, 177, 178, 179] f

/-- Functions that write: no use in trying them over a memory that is only read. -/
def wrT (f : FuncId) : Bool := inN [71, 72, 73, 107, 108, 109, 110, 115, 128, 129, 130, 131, 149, 175, 176, 177, 178, 179] f

/-- Functions that make lists longer as shared rows. -/
def frT (f : FuncId) : Bool := inN [] f

/-- Types whose new blocks tell their type. -/
def ubT (t : TypeId) : Bool := inN [] t

/-- Functions that leave only those new blocks that something leads to. -/
def gcT (_f : FuncId) : Bool := true

end Go.Proofs.YtmpddcgjpdnilaaGreatDoor
