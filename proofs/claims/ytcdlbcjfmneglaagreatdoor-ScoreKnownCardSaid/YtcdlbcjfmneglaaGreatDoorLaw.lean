/-
  What is proved: the law ScoreKnown answers true at every call: its body has no argument, and the abstract run of it ends with true, over the package-level variables as the program's text lays them.
-/
import Derived.Test.YtcdlbcjfmneglaaGreatDoorRows
import Derived.WalkKit
import Derived.ProofKit
import Derived.OpenShut
import Derived.LaidMore
import Derived.Stop.Joined
import Derived.SevenTiedAt
import Derived.Lay
import Derived.Test.YtcdlbcjfmneglaaGreatDoorTie
import Derived.Test.YtcdlbcjfmneglaaGreatDoorCards
import Derived.Test.YtcdlbcjfmneglaaGreatDoorLawA
import Derived.Test.YtcdlbcjfmneglaaGreatDoorJ1
import Derived.Test.YtcdlbcjfmneglaaGreatDoorJ2
namespace Go.Proofs.YtcdlbcjfmneglaaGreatDoor.scoreKnown
open Go.ChangeShapes Go.WideShapes Go.ChangeAt Go.WideMaps Go.WideElems Go.RowKit
set_option linter.unusedVariables false

theorem facts : joinedFacts Tryz.prog 3 Tryz.f3 Rows.scoreKnownSpec Rows.scoreKnownRow = true := by
  have h1 := j1
  have h2 := j2
  rw [Bool.and_eq_true] at h1 h2
  obtain ⟨a1, a2⟩ := h1
  obtain ⟨a3, a4⟩ := h2
  unfold joinedFacts
  rw [a1, a2, a3, a4]
  show (_ : Bool) = true
  kernel_rfl

theorem over : Rows.ScoreKnownSaid :=
  OpenClaim.holds_of_wide 3 Tryz.f3 rfl rfl rfl rfl rfl rfl rfl ⟨rfl, rfl, rfl, rfl, rfl⟩ rfl rfl rfl rfl rfl (by kernel_rfl) Tryz.func3 facts
    (of_decide_eq_true (by kernel_rfl)) (by unfold Func.isWrapper; first | (rw [if_pos (by decide +kernel)]; kernel_rfl) | (rw [if_neg (by decide +kernel)]; exact ⟨rfl, rfl⟩))
    (fun os started H enc _ => lifted os started H enc)

/-- The card. -/
theorem proved : Rows.ScoreKnownCardSaid :=
  Claim7.holds_tied_plain_at .later [] [.data, .data, .data, .data, .data, .data] true (true, "614dd00034aec1ac2e60e8670820972ff4441042dcc13c091d4cfd5ab7451984") true
    over (fun _ h => by cases h) (by kernel_rfl) (fun _ h => by cases h) scoreKnown_row_tie rfl ⟨rfl, rfl⟩ (by kernel_rfl) rfl
    (fun f fn hf hfn => by
      obtain rfl : f = 3 := Option.some.inj ((show Tryz.prog.funcNamed "sparrow/sparrowlaw05.ScoreKnown" = some 3 by kernel_rfl).symm.trans hf) |>.symm
      obtain rfl : fn = Tryz.f3 := (Option.some.inj (Tryz.func3.symm.trans hfn)).symm
      exact ⟨by kernel_rfl, fun j t ht => by
        rw [Tryz.params3] at ht
        simp at ht⟩)
    (by kernel_rfl)
#print axioms proved
end Go.Proofs.YtcdlbcjfmneglaaGreatDoor.scoreKnown
