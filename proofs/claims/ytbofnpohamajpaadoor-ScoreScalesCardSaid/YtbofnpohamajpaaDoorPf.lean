/-
  What is proved: what a scale without an error is like (arithmetic alone).
-/
import Derived.Test.YtbofnpohamajpaaDoorPd
namespace Go.Proofs.YtbofnpohamajpaaDoor
open Go.RowKit

/-- The limits ascend from i on. -/
def Asc (cs : List Value) (m i : Nat) : Prop := ∀ j, i ≤ j → j + 1 < i + m → gi cs (j * 2) < gi cs ((j + 1) * 2)

theorem asc_le {cs : List Value} {m i : Nat} (h : Asc cs m i) : ∀ k, k < m → gi cs (i * 2) ≤ gi cs ((i + k) * 2)
  | 0, _ => Int.le_refl _
  | k + 1, hk => by
    have h1 := asc_le h k (by omega)
    have h2 := h (i + k) (by omega) (by omega)
    have e : i + k + 1 = i + (k + 1) := by omega
    rw [e] at h2
    omega

theorem two_pow_pos (e : Nat) : (1 : Int) ≤ 2 ^ e := by
  have : (0 : Int) < 2 ^ e := Int.pow_pos (by omega)
  omega

theorem scan_ok {cs : List Value} : ∀ (m i : Nat), scan cs m i = 0 → ∀ k, k < m → bad cs (i + k) = false ∧ ord cs (i + k) = false
  | 0, _, _, k, hk => by omega
  | m + 1, i, h, k, hk => by
    rw [scan] at h
    split at h
    · omega
    · rename_i hb
      split at h
      · omega
      · rename_i ho
        cases k with
        | zero => exact ⟨by simpa using hb, by simpa using ho⟩
        | succ k =>
          have := scan_ok m (i + 1) h k (by omega)
          rw [show i + 1 + k = i + (k + 1) by omega] at this
          exact this

theorem scErr_ok {b r : Int} {n : Nat} {cs : List Value} (h : scErr b r n cs = 0) : 0 ≤ b ∧ b ≤ 1000 ∧ Asc cs n 0 ∧ ∀ k, k < n → 0 ≤ gi cs (k * 2 + 1) ∧ gi cs (k * 2 + 1) ≤ 1000000 := by
  unfold scErr at h
  split at h
  · rename_i hb
    split at h
    · omega
    · simp only [btw, Bool.and_eq_true, decide_eq_true_eq] at hb
      refine ⟨hb.1.1, hb.1.2, fun j _ hj => ?_, fun k hk => ?_⟩
      · have := (scan_ok n 0 h (j + 1) (by omega)).2
        rw [Nat.zero_add] at this
        simp only [ord, Bool.and_eq_false_iff, Bool.or_eq_false_iff, decide_eq_false_iff_not] at this
        rcases this with this | this
        · omega
        · have h1 := this.1
          rw [Nat.add_sub_cancel] at h1
          omega
      · have := (scan_ok n 0 h k hk).1
        rw [Nat.zero_add] at this
        simp only [bad, btw, Bool.not_eq_false', Bool.and_eq_true, decide_eq_true_eq] at this
        exact this.2
  · omega

end Go.Proofs.YtbofnpohamajpaaDoor
