/-
  What is proved: both functions Points come to the same of every valid scale (arithmetic alone).
-/
import Derived.Test.YtlinnmehicbomaaDoorPe
namespace Go.Proofs.YtlinnmehicbomaaDoor
open Go.RowKit

/-- The limits ascend from i on. -/
def Asc (cs : List Value) (m i : Nat) : Prop := ∀ j, i ≤ j → j + 1 < i + m → gi cs (j * 2) < gi cs ((j + 1) * 2)

theorem asc_le {cs : List Value} {m i : Nat} (h : Asc cs m i) : ∀ k, k < m → gi cs (i * 2) ≤ gi cs ((i + k) * 2)
  | 0, _ => Int.le_refl _
  | k + 1, hk => by
    have h1 := asc_le h k (by omega)
    have h2 := h (i + k) (by omega) (by omega)
    have e : i + k + 1 = i + (k + 1) := by omega
    rw [e] at h2
    omega

theorem refOut_none {cs : List Value} {v : Int} : ∀ (m i : Nat) (x : Int), (∀ k, k < m → v < gi cs ((i + k) * 2)) → refOut cs v m i x = x
  | 0, _, _, _ => rfl
  | m + 1, i, x, h => by
    have h0 := h 0 (by omega)
    rw [Nat.add_zero] at h0
    rw [refOut, if_neg (by omega)]
    refine refOut_none m (i + 1) x fun k hk => ?_
    have := h (k + 1) (by omega)
    rw [show i + 1 + k = i + (k + 1) by omega]
    exact this

theorem refOut_reach {cs : List Value} {v : Int} : ∀ (m i : Nat) (x : Int), Asc cs m i → i ≤ reach cs v m i ∧ refOut cs v m i x = if reach cs v m i = i then x else gi cs ((reach cs v m i - 1) * 2 + 1)
  | 0, i, x, _ => by simp [reach, refOut]
  | m + 1, i, x, h => by
    rw [reach, refOut]
    by_cases hc : gi cs (i * 2) ≤ v
    · rw [if_pos hc, if_pos hc]
      obtain ⟨h1, h2⟩ := refOut_reach (v := v) m (i + 1) (gi cs (i * 2 + 1)) fun j a b => h j (by omega) (by omega)
      refine ⟨by omega, ?_⟩
      rw [h2]
      have hne : ¬ reach cs v m (i + 1) = i := by omega
      rw [if_neg hne]
      by_cases e : reach cs v m (i + 1) = i + 1
      · rw [if_pos e, e]; rfl
      · rw [if_neg e]
    · rw [if_neg hc, if_neg hc]
      refine ⟨Nat.le_refl _, ?_⟩
      rw [if_pos rfl]
      refine refOut_none m (i + 1) x fun k hk => ?_
      have := asc_le h (k + 1) (by omega)
      rw [show i + 1 + k = i + (k + 1) by omega]
      omega

theorem two_pow_pos (e : Nat) : (1 : Int) ≤ 2 ^ e := by
  have : (0 : Int) < 2 ^ e := Int.pow_pos (by omega)
  omega

theorem dbl_min {v most : Int} : ∀ (m i : Nat) (n : Int), i + m = 20 → 0 ≤ n → 0 ≤ most →
    (if most < dblF v most m i n then most else dblF v most m i n) = (if most < n * 2 ^ ((if 20 < v then 20 else v).toNat - i) then most else n * 2 ^ ((if 20 < v then 20 else v).toNat - i))
  | 0, i, n, hi, hn, hm => by
    have : (if 20 < v then 20 else v).toNat - i = 0 := by split <;> omega
    rw [this, dblF, Int.pow_zero, Int.mul_one]
  | m + 1, i, n, hi, hn, hm => by
    rw [dblF]
    by_cases hc : (i : Int) < v ∧ n < most ∧ 0 < n
    · rw [if_pos hc]
      have ih := dbl_min m (i + 1) (2 * n) (by omega) (by omega) hm (v := v) (most := most)
      have e : (if 20 < v then 20 else v).toNat - i = ((if 20 < v then 20 else v).toNat - (i + 1)) + 1 := by split <;> omega
      have e2 : n * 2 ^ ((if 20 < v then 20 else v).toNat - i) = 2 * n * 2 ^ ((if 20 < v then 20 else v).toNat - (i + 1)) := by
        rw [e, Int.pow_succ, Int.mul_comm _ (2 : Int), ← Int.mul_assoc, Int.mul_comm n 2]
      rw [e2, ← ih]
      rfl
    · rw [if_neg hc]
      by_cases h0 : n = 0
      · subst h0; simp
      · by_cases h1 : most ≤ n
        · have hp := two_pow_pos ((if 20 < v then 20 else v).toNat - i)
          have : n ≤ n * 2 ^ ((if 20 < v then 20 else v).toNat - i) := by
            have := Int.mul_le_mul_of_nonneg_left hp hn
            rwa [Int.mul_one] at this
          generalize n * 2 ^ ((if 20 < v then 20 else v).toNat - i) = z at this
          split <;> split <;> omega
        · have : (if 20 < v then 20 else v).toNat - i = 0 := by
            have hv : v ≤ i := by omega
            split <;> omega
          rw [this, Int.pow_zero, Int.mul_one]

theorem scan_ok {cs : List Value} : ∀ (m i : Nat), scan cs m i = 0 → ∀ k, k < m → bad cs (i + k) = false ∧ ord cs (i + k) = false
  | 0, _, _, k, hk => by omega
  | m + 1, i, h, k, hk => by
    rw [scan] at h
    split at h
    · omega
    · rename_i hb
      split at h
      · omega
      · rename_i ho
        cases k with
        | zero => exact ⟨by simpa using hb, by simpa using ho⟩
        | succ k =>
          have := scan_ok m (i + 1) h k (by omega)
          rw [show i + 1 + k = i + (k + 1) by omega] at this
          exact this

theorem scErr_ok {b r : Int} {n : Nat} {cs : List Value} (h : scErr b r n cs = 0) : 0 ≤ b ∧ b ≤ 1000 ∧ Asc cs n 0 ∧ ∀ k, k < n → 0 ≤ gi cs (k * 2 + 1) ∧ gi cs (k * 2 + 1) ≤ 1000000 := by
  unfold scErr at h
  split at h
  · rename_i hb
    split at h
    · omega
    · simp only [btw, Bool.and_eq_true, decide_eq_true_eq] at hb
      refine ⟨hb.1.1, hb.1.2, fun j _ hj => ?_, fun k hk => ?_⟩
      · have := (scan_ok n 0 h (j + 1) (by omega)).2
        rw [Nat.zero_add] at this
        simp only [ord, Bool.and_eq_false_iff, Bool.or_eq_false_iff, decide_eq_false_iff_not] at this
        rcases this with this | this
        · omega
        · have h1 := this.1
          rw [Nat.add_sub_cancel] at h1
          omega
      · have := (scan_ok n 0 h k hk).1
        rw [Nat.zero_add] at this
        simp only [bad, btw, Bool.not_eq_false', Bool.and_eq_true, decide_eq_true_eq] at this
        exact this.2
  · omega

theorem pts_eq (b : Int) (d : Bool) (r : Int) (n : Nat) (cs : List Value) (mi v : Int) : pts b d r n cs mi v = refPts (scErr b r n cs) b d n cs mi v := by
  unfold pts ptsOf refPts
  by_cases e : scErr b r n cs = 0
  rotate_left
  · rw [if_neg (fun h => e h.1), if_neg (fun h => e h.1)]
  obtain ⟨b0, b1, hasc, hp⟩ := scErr_ok e
  by_cases e2 : btw mi 0 1000 = true ∧ btw v 0 1073741824 = true
  rotate_left
  · rw [if_neg (fun h => e2 h.2), if_neg]
    intro h
    apply e2
    simp only [btw, Bool.and_eq_true, decide_eq_true_eq]
    omega
  have e2' := e2
  simp only [btw, Bool.and_eq_true, decide_eq_true_eq] at e2'
  have g1 : scErr b r n cs = 0 ∧ btw mi 0 1000 = true ∧ btw v 0 1073741824 = true := ⟨e, e2⟩
  have g2 : scErr b r n cs = 0 ∧ ¬ mi < 0 ∧ ¬ 1000 < mi ∧ ¬ v < 0 ∧ ¬ 1073741824 < v := ⟨e, by omega, by omega, by omega, by omega⟩
  simp only [if_pos g1, if_pos g2]
  obtain ⟨_, hout⟩ := refOut_reach (v := v) n 0 (-1) hasc
  have hle := reach_le cs v n 0
  by_cases hk : 0 < reach cs v n 0
  · rw [if_neg (by omega)] at hout
    have := hp (reach cs v n 0 - 1) (by omega)
    rw [if_pos hk, hout, if_pos ⟨by omega, this.1⟩]
  · rw [if_pos (by omega)] at hout
    have g3 : ¬ (0 < n ∧ (0 : Int) ≤ -1) := by omega
    simp only [if_neg hk, hout, if_neg g3]
    have hbm : 0 ≤ b * mi ∧ b * mi ≤ 1000000 := by
      refine ⟨Int.mul_nonneg b0 (by omega), ?_⟩
      have h1 := Int.mul_le_mul_of_nonneg_right b1 (show 0 ≤ mi by omega)
      omega
    have hbw : wrapI .i64 (b * mi) = b * mi := wrapI_small (by omega) (by omega)
    have core : ∀ most : Int, 0 ≤ most → (if most < unl b d mi v then most else unl b d mi v) =
        if d = true then (if most < dblF v most 20 0 (wrapI .i64 (b * mi)) then most else dblF v most 20 0 (wrapI .i64 (b * mi))) else (if most < wrapI .i64 (wrapI .i64 (b * mi) * v) then most else wrapI .i64 (wrapI .i64 (b * mi) * v)) := by
      intro most hm
      unfold unl
      cases d with
      | false => simp only [Bool.false_eq_true, if_false]
      | true =>
        simp only [if_true]
        have hd := dbl_min (v := v) (most := most) 20 0 (wrapI .i64 (b * mi)) (by omega) (by rw [hbw]; omega) hm
        rw [show ((0 : Nat) : Int) = 0 from rfl, Nat.sub_zero] at hd
        rw [hd, hbw]
        have ht : (if 20 < v then 20 else v).toNat ≤ 20 := by split <;> omega
        have hmin : min (if 20 < v then 20 else v).toNat 64 = (if 20 < v then 20 else v).toNat := by omega
        rw [hmin]
        generalize (if 20 < v then 20 else v).toNat = t at ht
        have hpow : (2 : Int) ^ t ≤ 2 ^ 20 := by
          have h := Nat.pow_le_pow_right (n := 2) (by omega) ht
          exact_mod_cast h
        have hp1 := two_pow_pos t
        have hbig : b * mi * 2 ^ t ≤ 1000000 * 1048576 := by
          have h1 := Int.mul_le_mul hbm.2 hpow (by omega) (by omega)
          simpa using h1
        have hnn : 0 ≤ b * mi * 2 ^ t := Int.mul_nonneg hbm.1 (by omega)
        rw [wrapI_small (by omega) (by omega)]
    by_cases hn : 0 < n
    · have h0 := hp 0 hn
      rw [Nat.zero_mul, Nat.zero_add] at h0
      simp only [if_pos hn]
      have hc := core (gi cs 1) h0.1
      cases d with
      | false =>
        simp only [Bool.false_eq_true, if_false] at hc ⊢
        rw [← hc]
        generalize unl b false mi v = q
        generalize gi cs 1 = z at h0 ⊢
        split <;> split <;> (try split) <;> omega
      | true =>
        simp only [if_true] at hc ⊢
        rw [← hc]
        generalize unl b true mi v = q
        generalize gi cs 1 = z at h0 ⊢
        split <;> split <;> (try split) <;> omega
    · simp only [if_neg hn]
      have hc := core 1000000 (by omega)
      cases d with
      | false => simpa using hc
      | true => simpa using hc

end Go.Proofs.YtlinnmehicbomaaDoor
