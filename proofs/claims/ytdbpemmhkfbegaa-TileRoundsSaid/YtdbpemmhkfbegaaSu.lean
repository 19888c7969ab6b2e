/-
  What is proved: numbers that the kit's source hands out lie below their bound (arithmetic alone).
-/
import Derived.Test.YtdbpemmhkfbegaaSk
import Derived.OpenShut
namespace Go.Proofs.Ytdbpemmhkfbegaa
open Go.RowKit
set_option linter.unusedSimpArgs false
set_option linter.unusedVariables false

/-- The source's next state. -/
noncomputable def nxtX (x : Int) : Int := wrapI .u64 (wrapI .u64 (x * 15074714826142052245) + 7146057691288625177)
/-- The number that it hands out then. -/
noncomputable def belX (x n : Int) : Int := if n < 1 then 0 else wrapI .i64 (((bits .xor .u64 (nxtX x) ((nxtX x).fdiv 2147483648)).fdiv 1048576).tmod (wrapI .u64 n))

theorem belX_range (x n : Int) (h1 : 1 ≤ n) (h2 : n ≤ 4611686018427387904) : 0 ≤ belX x n ∧ belX x n < n := by
  unfold belX
  rw [if_neg (by omega)]
  have hb := bounds_u64 (wf_bits .xor .u64 (nxtX x) ((nxtX x).fdiv 2147483648))
  generalize bits .xor .u64 (nxtX x) ((nxtX x).fdiv 2147483648) = a at hb
  have hw : wrapI .u64 n = n := by simp only [wrapI]; omega
  rw [hw]
  have hf : 0 ≤ a.fdiv 1048576 := Int.fdiv_nonneg hb.1 (by omega)
  generalize a.fdiv 1048576 = q at hf
  have h3 : 0 ≤ q.tmod n := Int.tmod_nonneg n hf
  have h4 : q.tmod n < n := Int.tmod_lt_of_pos q (by omega)
  rw [wrapI_small (by omega) (by omega)]
  exact ⟨h3, h4⟩

end Go.Proofs.Ytdbpemmhkfbegaa
