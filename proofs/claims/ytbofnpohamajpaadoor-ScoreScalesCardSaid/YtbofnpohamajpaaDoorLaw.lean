/-
  What is proved: the law ScoreScales answers true at every call: for every list of numbers (of any length) that a scale is made of, every number of minor points and every value, points are at least 0 and at most those of the last limit (or MaxPoints), and never fall with a greater value, nor with more minor points; over the package-level variable as the program's text lays it.
-/
import Derived.Test.YtbofnpohamajpaaDoorRows
import Derived.WalkKit
import Derived.ProofKit
import Derived.OpenShut
import Derived.LaidMore
import Derived.Stop.Joined
import Derived.SevenTiedAt
import Derived.Lay
import Derived.Test.YtbofnpohamajpaaDoorTie
import Derived.Test.YtbofnpohamajpaaDoorCards
import Derived.Test.YtbofnpohamajpaaDoorLawA
import Derived.Test.YtbofnpohamajpaaDoorJ1
import Derived.Test.YtbofnpohamajpaaDoorJ2
namespace Go.Proofs.YtbofnpohamajpaaDoor.scoreScales
open Go.ChangeShapes Go.WideShapes Go.ChangeAt Go.WideMaps Go.WideElems Go.RowKit
set_option linter.unusedVariables false

theorem facts : joinedFacts Tryd.prog 3 Tryd.f3 Rows.scoreScalesSpec Rows.scoreScalesRow = true := by
  have h1 := j1
  have h2 := j2
  rw [Bool.and_eq_true] at h1 h2
  obtain ⟨a1, a2⟩ := h1
  obtain ⟨a3, a4⟩ := h2
  unfold joinedFacts
  rw [a1, a2, a3, a4]
  show (_ : Bool) = true
  kernel_rfl

theorem over : Rows.ScoreScalesSaid :=
  OpenClaim.holds_of_wide 3 Tryd.f3 rfl rfl rfl rfl rfl rfl rfl ⟨rfl, rfl, rfl, rfl, rfl⟩ rfl rfl rfl rfl rfl (by kernel_rfl) Tryd.func3 facts
    (of_decide_eq_true (by kernel_rfl)) (by unfold Func.isWrapper; first | (rw [if_pos (by decide +kernel)]; kernel_rfl) | (rw [if_neg (by decide +kernel)]; exact ⟨rfl, rfl⟩))
    (fun os started H enc _ => lifted os started H enc)

theorem ws22 : Tryd.prog.wantsStandIn 22 = false := by kernel_rfl
theorem ws3 : Tryd.prog.wantsStandIn 3 = false := by kernel_rfl

/-- The card. -/
theorem proved : Rows.ScoreScalesCardSaid :=
  Claim7.holds_tied_plain_at .later [] [.data] true (true, "15bd198ac9e00793e516e003135e9128b20ab35034b2638040b2a4a900772cc6") false
    over (fun _ h => by cases h) (by kernel_rfl) (fun _ h => by cases h) scoreScales_row_tie rfl ⟨rfl, rfl⟩ (by kernel_rfl) rfl
    (fun f fn hf hfn => by
      obtain rfl : f = 3 := Option.some.inj ((show Tryd.prog.funcNamed "sparrow/sparrowlaw05.ScoreScales" = some 3 by kernel_rfl).symm.trans hf) |>.symm
      obtain rfl : fn = Tryd.f3 := (Option.some.inj (Tryd.func3.symm.trans hfn)).symm
      exact ⟨by kernel_rfl, fun j t ht => by
        rw [Tryd.params3] at ht
        have e : t = 22 ∨ t = 3 := by
          match j with
          | 0 => exact .inl (Option.some.inj ht).symm
          | 1 => exact .inr (Option.some.inj ht).symm
          | 2 => exact .inr (Option.some.inj ht).symm
          | j + 3 => simp at ht
        rcases e with rfl | rfl
        · exact ws22
        · exact ws3⟩)
    (by kernel_rfl)
#print axioms proved
end Go.Proofs.YtbofnpohamajpaaDoor.scoreScales
