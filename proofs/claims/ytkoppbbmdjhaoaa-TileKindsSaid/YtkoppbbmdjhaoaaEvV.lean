/-
  What is proved: the abstract run of the program's own examples (tilelaws.awake) and of the law TileKnown ends, and its answer is true.
-/
import Derived.Test.YtkoppbbmdjhaoaaEvU
namespace Go.Proofs.Ytkoppbbmdjhaoaa
open Go.RowKit

/-- the handler: the known answers of Check and of find -/
def memCF : Value → List Value → AH → Option (Value × AH) := orH (memoH memC) (memoH memF)

theorem memCF_ok : CallOK Try.prog memCF := orH_ok memC_ok memF_ok

theorem awake_ev : said true (evFn (tabT Try.prog) (evCall (tabT Try.prog) (tabF Try.prog) 300 kpT memCF 12) 300 kpT 25 Try.f25 [] ⟨0, []⟩) = true := by kernel_rfl

theorem known_ev : said true (evFn (tabT Try.prog) (evCall (tabT Try.prog) (tabF Try.prog) 300 kpT memCF 12) 300 kpT 12 Try.f12 [] ⟨0, []⟩) = true := by kernel_rfl

end Go.Proofs.Ytkoppbbmdjhaoaa
