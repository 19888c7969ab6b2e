/-
  What is proved: the law ScorePoints answers true at every call: for every scale with limits of any number, every number of minor points and every value, the program's Points and the document's own come to the same, and the law's examples hold; over the package-level variable as the program's text lays it.
-/
import Derived.Test.YtlinnmehicbomaaDoorRows
import Derived.WalkKit
import Derived.ProofKit
import Derived.OpenShut
import Derived.LaidMore
import Derived.Stop.Joined
import Derived.SevenTiedAt
import Derived.Lay
import Derived.Test.YtlinnmehicbomaaDoorTie
import Derived.Test.YtlinnmehicbomaaDoorCards
import Derived.Test.YtlinnmehicbomaaDoorLawA
import Derived.Test.YtlinnmehicbomaaDoorJ1
import Derived.Test.YtlinnmehicbomaaDoorJ2
namespace Go.Proofs.YtlinnmehicbomaaDoor.scorePoints
open Go.ChangeShapes Go.WideShapes Go.ChangeAt Go.WideMaps Go.WideElems Go.RowKit
set_option linter.unusedVariables false

theorem facts : joinedFacts Tryd.prog 3 Tryd.f3 Rows.scorePointsSpec Rows.scorePointsRow = true := by
  have h1 := j1
  have h2 := j2
  rw [Bool.and_eq_true] at h1 h2
  obtain ⟨a1, a2⟩ := h1
  obtain ⟨a3, a4⟩ := h2
  unfold joinedFacts
  rw [a1, a2, a3, a4]
  show (_ : Bool) = true
  kernel_rfl

theorem over : Rows.ScorePointsSaid :=
  OpenClaim.holds_of_wide 3 Tryd.f3 rfl rfl rfl rfl rfl rfl rfl ⟨rfl, rfl, rfl, rfl, rfl⟩ rfl rfl rfl rfl rfl (by kernel_rfl) Tryd.func3 facts
    (of_decide_eq_true (by kernel_rfl)) (by unfold Func.isWrapper; first | (rw [if_pos (by decide +kernel)]; kernel_rfl) | (rw [if_neg (by decide +kernel)]; exact ⟨rfl, rfl⟩))
    (fun os started H enc _ => lifted os started H enc)

theorem ws24 : Tryd.prog.wantsStandIn 24 = false := by kernel_rfl
theorem ws3 : Tryd.prog.wantsStandIn 3 = false := by kernel_rfl

/-- The card. -/
theorem proved : Rows.ScorePointsCardSaid :=
  Claim7.holds_tied_plain_at .later [] [.data] true (true, "652ff28ccf4d402e65e8f74b3120d2468cf645c9c00a5d66e878970a0434f035") false
    over (fun _ h => by cases h) (by kernel_rfl) (fun _ h => by cases h) scorePoints_row_tie rfl ⟨rfl, rfl⟩ (by kernel_rfl) rfl
    (fun f fn hf hfn => by
      obtain rfl : f = 3 := Option.some.inj ((show Tryd.prog.funcNamed "sparrow/sparrowlaw05.ScorePoints" = some 3 by kernel_rfl).symm.trans hf) |>.symm
      obtain rfl : fn = Tryd.f3 := (Option.some.inj (Tryd.func3.symm.trans hfn)).symm
      exact ⟨by kernel_rfl, fun j t ht => by
        rw [Tryd.params3] at ht
        have e : t = 24 ∨ t = 3 := by
          match j with
          | 0 => exact .inl (Option.some.inj ht).symm
          | 1 => exact .inr (Option.some.inj ht).symm
          | 2 => exact .inr (Option.some.inj ht).symm
          | j + 3 => simp at ht
        rcases e with rfl | rfl
        · exact ws24
        · exact ws3⟩)
    (by kernel_rfl)
#print axioms proved
end Go.Proofs.YtlinnmehicbomaaDoor.scorePoints
