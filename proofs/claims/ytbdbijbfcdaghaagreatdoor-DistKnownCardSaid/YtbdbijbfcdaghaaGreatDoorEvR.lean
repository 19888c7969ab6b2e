/-
  What is proved: nothing of the program. This text lays the tables of this translation for the evaluator.
-/
import Derived.Test.YtbdbijbfcdaghaaGreatDoorEvQ
import Derived.Test.YtbdbijbfcdaghaaGreatDoorProg
namespace Go.Proofs.YtbdbijbfcdaghaaGreatDoor
open Go.RowKit

def tabT (P : Program) (t : TypeId) : Option TI :=
  match P.info? t, P.underlying t with
  | some i, some d =>
    match i.zero with
    | some z => if closedV 6 z && Nat.beq z.cells.size i.size then some ⟨i.size, i.bytes, z, d, aggD d && !P.stoodInHeld t && !P.eqGuardType P.depth t⟩ else none
    | none => none
  | _, _ => none

theorem tabT_ok (P : Program) : TOk P (tabT P) := by
  intro t x h
  unfold tabT at h
  split at h
  · rename_i i d hi hd
    split at h
    · rename_i z hz
      split at h
      · rename_i hc
        simp only [Bool.and_eq_true] at hc
        cases h
        exact ⟨⟨i, hi, rfl, rfl, hz⟩, hd, hc.1, Nat.eq_of_beq_eq_true hc.2, fun h => by
          simp only [Bool.and_eq_true, Bool.not_eq_true'] at h
          exact ⟨h.1.2, h.2⟩⟩
      · cases h
    · cases h
  · cases h

def tabF (P : Program) (f : FuncId) : Option Func :=
  match P.funcs[f]? with
  | some fn => if fn.name == "runtime.NumGoroutine" then none else some fn
  | none => none

theorem tabF_ok (P : Program) : FOk P (tabF P) := by
  intro f fn h
  unfold tabF at h
  split at h
  · rename_i g hg
    split at h
    · cases h
    · rename_i hn
      cases h
      exact ⟨hg, by simpa using hn⟩
  · cases h

theorem mixed : Tryz.prog.follows .mixedOrders = true := by kernel_rfl

end Go.Proofs.YtbdbijbfcdaghaaGreatDoor
