/-
  What is proved: the law EveningKnown answers true at every call: its body has no argument, and the abstract run of it ends with true, over the package-level variables as the program's text lays them.
-/
import Derived.Test.YtmpddcgjpdnilaaGreatDoorRows
import Derived.WalkKit
import Derived.ProofKit
import Derived.OpenShut
import Derived.LaidMore
import Derived.Stop.Joined
import Derived.SevenTiedAt
import Derived.Lay
import Derived.Test.YtmpddcgjpdnilaaGreatDoorTie
import Derived.Test.YtmpddcgjpdnilaaGreatDoorCards
import Derived.Test.YtmpddcgjpdnilaaGreatDoorLawA
import Derived.Test.YtmpddcgjpdnilaaGreatDoorJ1
import Derived.Test.YtmpddcgjpdnilaaGreatDoorJ2
namespace Go.Proofs.YtmpddcgjpdnilaaGreatDoor.eveningKnown
open Go.ChangeShapes Go.WideShapes Go.ChangeAt Go.WideMaps Go.WideElems Go.RowKit
set_option linter.unusedVariables false

theorem facts : joinedFacts Tryz.prog 3 Tryz.f3 Rows.eveningKnownSpec Rows.eveningKnownRow = true := by
  have h1 := j1
  have h2 := j2
  rw [Bool.and_eq_true] at h1 h2
  obtain ⟨a1, a2⟩ := h1
  obtain ⟨a3, a4⟩ := h2
  unfold joinedFacts
  rw [a1, a2, a3, a4]
  show (_ : Bool) = true
  kernel_rfl

theorem over : Rows.EveningKnownSaid :=
  OpenClaim.holds_of_wide 3 Tryz.f3 rfl rfl rfl rfl rfl rfl rfl ⟨rfl, rfl, rfl, rfl, rfl⟩ rfl rfl rfl rfl rfl (by kernel_rfl) Tryz.func3 facts
    (of_decide_eq_true (by kernel_rfl)) (by unfold Func.isWrapper; first | (rw [if_pos (by decide +kernel)]; kernel_rfl) | (rw [if_neg (by decide +kernel)]; exact ⟨rfl, rfl⟩))
    (fun os started H enc _ => lifted os started H enc)

/-- The card. -/
theorem proved : Rows.EveningKnownCardSaid :=
  Claim7.holds_tied_plain_at .later [] [.data] true (true, "160c4eea8515dfe3f961116f579090f3e2db75c4aa49a97a4e23bd1990fc96aa") false
    over (fun _ h => by cases h) (by kernel_rfl) (fun _ h => by cases h) eveningKnown_row_tie rfl ⟨rfl, rfl⟩ (by kernel_rfl) rfl
    (fun f fn hf hfn => by
      obtain rfl : f = 3 := Option.some.inj ((show Tryz.prog.funcNamed "sparrow/sparrowlaw07.EveningKnown" = some 3 by kernel_rfl).symm.trans hf) |>.symm
      obtain rfl : fn = Tryz.f3 := (Option.some.inj (Tryz.func3.symm.trans hfn)).symm
      exact ⟨by kernel_rfl, fun j t ht => by
        rw [Tryz.params3] at ht
        simp at ht⟩)
    (by kernel_rfl)
#print axioms proved
end Go.Proofs.YtmpddcgjpdnilaaGreatDoor.eveningKnown
