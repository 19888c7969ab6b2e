/-
  What is proved: the words of a seed: what the program's generator and the document's own draw, in numbers; no three words in a row are refused.
-/
import Derived.Test.YtbgknpcbldnabaaTg
namespace Go.Proofs.Ytbgknpcbldnabaa
open Go.RowKit
set_option linter.unusedSimpArgs false
set_option linter.unusedVariables false

theorem no3 (x0 x1 x2 : Int) (h0 : 18446742845348904960 ≤ x0) (g0 : x0 < 18446744073709551616) (e1 : x1 = (6364136223846793005 * x0 + 1442695040888963407) % 18446744073709551616) (e2 : x2 = (6364136223846793005 * x1 + 1442695040888963407) % 18446744073709551616) (h1 : 18446742845348904960 ≤ x1) (h2 : 18446742845348904960 ≤ x2) : False := by
  have g1 : x1 < 18446744073709551616 := by omega
  have g2 : x2 < 18446744073709551616 := by omega
  obtain ⟨q0, hq0⟩ : ∃ q0 : Int, x1 = 6364136223846793005 * x0 + 1442695040888963407 - 18446744073709551616 * q0 := ⟨(6364136223846793005 * x0 + 1442695040888963407) / 18446744073709551616, by omega⟩
  obtain ⟨q1, hq1⟩ : ∃ q1 : Int, x2 = 6364136223846793005 * x1 + 1442695040888963407 - 18446744073709551616 * q1 := ⟨(6364136223846793005 * x1 + 1442695040888963407) / 18446744073709551616, by omega⟩
  have key : 3213406 * x0 + (-241617) * x1 + 4015367 * x2 = 18446744073709551616 * (8816261374873124290545556 * x0 - (25554342576739025687866218) * q0 - 4015367 * q1) + 36867123308639087180773214175753986042160095 := by omega
  clear e1 e2 hq0 hq1
  have lo : 128890269655543859021611008 ≤ 3213406 * x0 + (-241617) * x1 + 4015367 * x2 := by clear key; omega
  have hi : 3213406 * x0 + (-241617) * x1 + 4015367 * x2 ≤ 128890278831876950194126848 := by clear key; omega
  generalize (8816261374873124290545556 * x0 - (25554342576739025687866218) * q0 - 4015367 * q1) = t at key
  generalize 3213406 * x0 + (-241617) * x1 + 4015367 * x2 = z at key lo hi
  clear h0 g0 h1 h2 g1 g2
  omega

noncomputable def stepW (x : Int) : Int := wrapI .u64 (wrapI .u64 (x * 6364136223846793005) + 1442695040888963407)
theorem stepW_eq (x : Int) : stepW x = (6364136223846793005 * x + 1442695040888963407) % 18446744073709551616 := by
  simp only [stepW, wrapI]; omega
theorem stepW_bd (x : Int) : 0 ≤ stepW x ∧ stepW x < 18446744073709551616 := by
  rw [stepW_eq]; omega
noncomputable def wd (x : Int) : Int := x.fdiv 8589934592
theorem wd_eq (x : Int) : wd x = x / 8589934592 := Int.fdiv_eq_ediv_of_nonneg x (by omega)
theorem wd_bd (x : Int) : 0 ≤ wd (stepW x) ∧ wd (stepW x) < 2147483648 := by
  have := stepW_bd x
  rw [wd_eq]; omega
noncomputable def lim (n : Nat) : Int := 2147483648 - 2147483648 % (n : Int)
noncomputable def it : Nat → Int → Int
  | 0, x => x
  | k + 1, x => stepW (it k x)
noncomputable def nxs (n : Nat) (x : Int) : Int := if wd (it 1 x) < lim n then it 1 x else if wd (it 2 x) < lim n then it 2 x else it 3 x
theorem lim_bd {n : Nat} (h1 : 1 ≤ n) (h2 : n ≤ 144) : 2147483505 ≤ lim n ∧ lim n ≤ 2147483648 := by
  have h := Int.emod_lt_of_pos 2147483648 (show (0 : Int) < n by omega)
  have h0 := Int.emod_nonneg 2147483648 (show (n : Int) ≠ 0 by omega)
  unfold lim; omega
theorem it3_lt {n : Nat} (h1 : 1 ≤ n) (h2 : n ≤ 144) (x : Int) (a1 : ¬ wd (it 1 x) < lim n) (a2 : ¬ wd (it 2 x) < lim n) : wd (it 3 x) < lim n := by
  have hl := lim_bd h1 h2
  have b1 := stepW_bd x
  have b2 := stepW_bd (it 1 x)
  have b3 := stepW_bd (it 2 x)
  rcases Int.lt_or_le (wd (it 3 x)) (lim n) with h | h
  · exact h
  · exfalso
    simp only [it] at *
    rw [wd_eq] at a1 a2 h
    exact no3 (stepW x) (stepW (stepW x)) (stepW (stepW (stepW x))) (by omega) b1.2 (stepW_eq _) (stepW_eq _) (by omega) (by omega)
theorem nxs_lt {n : Nat} (h1 : 1 ≤ n) (h2 : n ≤ 144) (x : Int) : wd (nxs n x) < lim n := by
  unfold nxs
  split
  · assumption
  · split
    · assumption
    · exact it3_lt h1 h2 x (by assumption) (by assumption)
theorem nxs_it {n k : Nat} {x : Int} (hk : k ≤ 2) (ha : wd (it (k + 1) x) < lim n) (hb : ∀ j, 1 ≤ j → j ≤ k → ¬ wd (it j x) < lim n) : it (k + 1) x = nxs n x := by
  unfold nxs
  match k with
  | 0 => rw [if_pos ha]
  | 1 => rw [if_neg (hb 1 (by omega) (by omega)), if_pos ha]
  | 2 => rw [if_neg (hb 1 (by omega) (by omega)), if_neg (hb 2 (by omega) (by omega))]
  | k + 3 => omega
/-- The number that is drawn. -/
noncomputable def drw (n : Nat) (x : Int) : Nat := (wd (nxs n x)).toNat % n
theorem nxs_bd (n : Nat) (x : Int) : 0 ≤ wd (nxs n x) ∧ wd (nxs n x) < 2147483648 := by
  unfold nxs
  split
  · exact wd_bd _
  · split
    · exact wd_bd _
    · exact wd_bd _
theorem drw_lt {n : Nat} (h : 1 ≤ n) (x : Int) : drw n x < n := Nat.mod_lt _ h
theorem drw_eq {n : Nat} (h1 : 1 ≤ n) (h2 : n ≤ 144) (x : Int) : (wd (nxs n x)).tmod n = (drw n x : Int) := by
  have h := nxs_bd n x
  have : wd (nxs n x) = ((wd (nxs n x)).toNat : Int) := by omega
  rw [this]
  unfold drw
  rw [← Int.ofNat_tmod]
theorem wrapU {n : Nat} (h : n ≤ 144) : wrapI .u64 (n : Int) = n := by simp only [wrapI]; omega
theorem tmodL (n : Nat) : (2147483648 : Int).tmod n = 2147483648 % (n : Int) := Int.tmod_eq_emod_of_nonneg (by omega)
theorem limP {n : Nat} (h1 : 1 ≤ n) (h2 : n ≤ 144) : wrapI .u64 (2147483648 - (2147483648 : Int).tmod n) = lim n := by
  have := lim_bd h1 h2
  rw [tmodL]
  unfold lim at *
  simp only [wrapI]; omega
theorem limR {n : Nat} (h1 : 1 ≤ n) (h2 : n ≤ 144) : wrapI .i64 (wrapI .i64 ((2147483648 : Int).tdiv n) * n) = lim n := by
  have hb := lim_bd h1 h2
  have e : (2147483648 : Int).tdiv n = 2147483648 / (n : Int) := Int.tdiv_eq_ediv_of_nonneg (by omega)
  have hd := Int.emod_add_mul_ediv 2147483648 (n : Int)
  have q0 : (0 : Int) ≤ 2147483648 / (n : Int) := Int.ediv_nonneg (by omega) (by omega)
  have q1 : 2147483648 / (n : Int) ≤ 2147483648 := Int.ediv_le_self _ (by omega)
  have e2 : 2147483648 / (n : Int) * n = lim n := by
    unfold lim
    rw [Int.mul_comm]; omega
  have w1 : wrapI .i64 (2147483648 / (n : Int)) = 2147483648 / (n : Int) := wrapI_small (by omega) (by omega)
  rw [e, w1, e2, wrapI_small (by omega) (by omega)]
theorem SH33 (x : Int) : shOp .shr .u64 x 33 = some (.int .u64 (wd x)) := by
  simp [shOp, IntKind.bits, wd]
theorem wdI (x : Int) : wrapI .i64 (wd (stepW x)) = wd (stepW x) := by
  have := wd_bd x
  exact wrapI_small (by omega) (by omega)

theorem setB_setB (i : Nat) (k k' : ABlk) : ∀ bs : List (Nat × ABlk), setB (setB bs i k) i k' = setB bs i k'
  | [] => rfl
  | (j, q) :: r => by
    simp only [setB]
    split
    · rename_i h; simp only [setB, h, if_true]
    · rename_i h; simp only [setB, h, Bool.false_eq_true, if_false, setB_setB i k k' r]

end Go.Proofs.Ytbgknpcbldnabaa
