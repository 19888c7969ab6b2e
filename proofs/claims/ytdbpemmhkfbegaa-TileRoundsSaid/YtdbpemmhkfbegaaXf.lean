/-
  What is proved: the places of a row, one after another.
-/
import Derived.Test.YtdbpemmhkfbegaaXe
namespace Go.Proofs.Ytdbpemmhkfbegaa
open Go.RowKit
set_option linter.unusedSimpArgs false
set_option linter.unusedVariables false

theorem findRows_low : ∀ (l : List (Int × Nat)) (c kind su r q : Int), findRows l c kind = some (su, r, q) → c ≤ kind - r ∧ 0 ≤ r ∧ r < q
  | [], c, kind, su, r, q, h => by cases h
  | (su', q') :: l, c, kind, su, r, q, h => by
    simp only [findRows] at h
    split at h
    · cases h; omega
    · have := findRows_low l _ _ _ _ _ h
      omega
/-- Every place of the row is found. -/
theorem findRows_row : ∀ (l : List (Int × Nat)) (c kind su r q : Int), findRows l c kind = some (su, r, q) → ∀ j : Int, 0 ≤ j → j < q → findRows l c (kind - r + j) = some (su, j, q)
  | [], c, kind, su, r, q, h => by cases h
  | (su', q') :: l, c, kind, su, r, q, h => by
    intro j h0 h1
    simp only [findRows] at h ⊢
    split at h
    · cases h
      rw [if_pos (by omega)]
      simp only [Option.some.injEq, Prod.mk.injEq, true_and, and_true]
      omega
    · have := findRows_low l _ _ _ _ _ h
      rw [if_neg (by omega)]
      exact findRows_row l _ _ _ _ _ h j h0 h1
theorem find_row {s : SV} {kind su r q : Int} (h : s.find kind = some (su, r, q)) {j : Int} (h0 : 0 ≤ j) (h1 : j < q) : s.find (kind - r + j) = some (su, j, q) := by
  unfold SV.find at h ⊢
  split at h
  · rename_i he
    rw [if_pos he]
    exact findRows_row _ _ _ _ _ _ h j h0 h1
  · cases h
theorem findRows_some : ∀ (l : List (Int × Nat)) (c kind : Int), c ≤ kind → kind < c + ((l.map (fun p => (p.2 : Int))).sum) → ∃ x, findRows l c kind = some x
  | [], c, kind, h1, h2 => by simp at h2; omega
  | (su, q) :: l, c, kind, h1, h2 => by
    simp only [findRows]
    split
    · exact ⟨_, rfl⟩
    · simp only [List.map_cons, List.sum_cons] at h2
      exact findRows_some l _ _ (by omega) (by omega)
theorem suitRows_sum (g : Nat → Int) : ∀ (k i : Nat) (a : Int), (∀ j, i ≤ j → j < i + k → 1 ≤ g j ∧ g j ≤ 9) → 0 ≤ a → a + 9 * k ≤ 1000 → sumG g k i a = a + ((suitRows g k i).map (fun p => (p.2 : Int))).sum
  | 0, i, a, _, _, _ => by simp [sumG, suitRows]
  | k + 1, i, a, h, ha, hb => by
    obtain ⟨b1, b2⟩ := h i (Nat.le_refl _) (by omega)
    simp only [sumG, suitRows, List.map_cons, List.sum_cons]
    rw [wrapI_small (by omega) (by omega), suitRows_sum g k (i + 1) (a + g i) (fun j h1 h2 => h j (by omega) (by omega)) (by omega) (by omega)]
    omega
theorem find_some {s : SV} {kind : Int} (he : s.err = 0) (h0 : 0 ≤ kind) (h1 : kind < s.plain + s.f) : ∃ su r q, s.find kind = some (su, r, q) := by
  have hs := small_of_err he
  obtain ⟨p0, p1, e0⟩ := plain_small hs
  obtain ⟨w1, w2⟩ := hs.w
  obtain ⟨d1, d2⟩ := hs.d
  obtain ⟨f1, f2⟩ := hs.f
  have hn := hs.n
  have e := suitRows_sum s.g s.n 0 (s.w + s.d) (fun j _ hj => hs.g j (by omega)) (by omega) (by omega)
  have hp : s.plain = s.w + s.d + ((suitRows s.g s.n 0).map (fun p => (p.2 : Int))).sum := by
    unfold SV.plain
    rw [e0, e]
  have hq : ((s.rows).map (fun p => (p.2 : Int))).sum = s.plain + s.f := by
    unfold SV.rows SV.tail
    simp only [List.map_append, List.sum_append, List.map_cons, List.map_nil, List.sum_cons, List.sum_nil]
    omega
  obtain ⟨⟨su, r, q⟩, hx⟩ := findRows_some s.rows 0 kind h0 (by omega)
  exact ⟨su, r, q, by unfold SV.find; rw [if_pos he, hx]⟩
/-- One step along a row. -/
theorem aft_row {s : SV} {kind su r q : Int} (h : s.find kind = some (su, r, q)) {i : Int} (hi : 1 ≤ i) (hq : i ≤ q) :
    s.aft (kind - r + (r + i - 1) % q) = kind - r + (r + i) % q ∧ s.find (kind - r + (r + i) % q) = some (su, (r + i) % q, q) ∧ (kind - r + (r + i) % q = kind ↔ i = q) := by
  obtain ⟨_, r0, rq, k0, _⟩ := find_spec h
  have m0 := Int.emod_nonneg (r + i - 1) (show q ≠ 0 by omega)
  have m1 := Int.emod_lt_of_pos (r + i - 1) (show 0 < q by omega)
  have n0 := Int.emod_nonneg (r + i) (show q ≠ 0 by omega)
  have n1 := Int.emod_lt_of_pos (r + i) (show 0 < q by omega)
  have e1 : (r + i - 1) % q = if r + i - 1 < q then r + i - 1 else r + i - 1 - q := by
    split
    · exact Int.emod_eq_of_lt (by omega) (by omega)
    · rw [← Int.emod_eq_of_lt (a := r + i - 1 - q) (b := q) (by omega) (by omega), Int.sub_emod_right]
  have e2 : (r + i) % q = if r + i < q then r + i else r + i - q := by
    split
    · exact Int.emod_eq_of_lt (by omega) (by omega)
    · by_cases c : r + i - q < q
      · rw [← Int.emod_eq_of_lt (a := r + i - q) (b := q) (by omega) c, Int.sub_emod_right]
      · omega
  refine ⟨?_, find_row h n0 n1, ?_⟩
  · unfold SV.aft
    rw [find_row h m0 m1]
    show (if (r + i - 1) % q = q - 1 then kind - r + (r + i - 1) % q - (r + i - 1) % q else kind - r + (r + i - 1) % q + 1) = _
    rw [e1, e2]
    split <;> split <;> split <;> omega
  · rw [e2]
    split <;> omega

end Go.Proofs.Ytdbpemmhkfbegaa
