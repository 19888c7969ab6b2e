/-
  What is proved: points of a valid scale never fall with a greater value, nor with more minor points, and are never above the last limit's (arithmetic alone).
-/
import Derived.Test.YtbofnpohamajpaaDoorPf
namespace Go.Proofs.YtbofnpohamajpaaDoor
open Go.RowKit

theorem reach_ge (cs : List Value) (v : Int) : ∀ m i, i ≤ reach cs v m i
  | 0, i => Nat.le_refl _
  | m + 1, i => by
    rw [reach]
    split
    · have := reach_ge cs v m (i + 1); omega
    · omega

theorem reach_mono (cs : List Value) {v v' : Int} (h : v ≤ v') : ∀ m i, reach cs v m i ≤ reach cs v' m i
  | 0, i => Nat.le_refl _
  | m + 1, i => by
    rw [reach, reach]
    by_cases h1 : gi cs (i * 2) ≤ v
    · rw [if_pos h1, if_pos (by omega)]
      exact reach_mono cs h m (i + 1)
    · rw [if_neg h1]
      split
      · have := reach_ge cs v' m (i + 1); omega
      · exact Nat.le_refl _

/-- The points of limits never fall. -/
theorem scErr_pts {b r : Int} {n : Nat} {cs : List Value} (h : scErr b r n cs = 0) : ∀ i j, i ≤ j → j < n → gi cs (i * 2 + 1) ≤ gi cs (j * 2 + 1) := by
  have step : ∀ j, j + 1 < n → gi cs (j * 2 + 1) ≤ gi cs ((j + 1) * 2 + 1) := by
    unfold scErr at h
    split at h
    · split at h
      · omega
      · intro j hj
        have := (scan_ok n 0 h (j + 1) (by omega)).2
        rw [Nat.zero_add] at this
        simp only [ord, Bool.and_eq_false_iff, Bool.or_eq_false_iff, decide_eq_false_iff_not] at this
        rcases this with this | this
        · omega
        · have h1 := this.2
          rw [Nat.add_sub_cancel] at h1
          omega
    · omega
  intro i j hij hj
  obtain ⟨k, rfl⟩ : ∃ k, j = i + k := ⟨j - i, by omega⟩
  induction k with
  | zero => exact Int.le_refl _
  | succ k ih =>
    have h1 := ih (by omega) (by omega)
    have h2 := step (i + k) (by omega)
    rw [show i + k + 1 = i + (k + 1) by omega] at h2
    omega

theorem bm_range {b mi : Int} (b0 : 0 ≤ b) (b1 : b ≤ 1000) (m0 : 0 ≤ mi) (m1 : mi ≤ 1000) : 0 ≤ b * mi ∧ b * mi ≤ 1000000 := by
  refine ⟨Int.mul_nonneg b0 m0, ?_⟩
  have h1 := Int.mul_le_mul_of_nonneg_right b1 m0
  omega

theorem unl_val {b mi v : Int} {d : Bool} (b0 : 0 ≤ b) (b1 : b ≤ 1000) (m0 : 0 ≤ mi) (m1 : mi ≤ 1000) (v0 : 0 ≤ v) (v1 : v ≤ 1073741824) :
    unl b d mi v = if d then b * mi * 2 ^ (if 20 < v then 20 else v).toNat else b * mi * v := by
  have hbm := bm_range b0 b1 m0 m1
  have hbw : wrapI .i64 (b * mi) = b * mi := wrapI_small (by omega) (by omega)
  unfold unl
  rw [hbw]
  cases d with
  | false =>
    simp only [Bool.false_eq_true, if_false]
    have h1 := Int.mul_le_mul hbm.2 v1 v0 (by omega)
    have h2 : 0 ≤ b * mi * v := Int.mul_nonneg hbm.1 v0
    have h3 : b * mi * v ≤ 1000000 * 1073741824 := h1
    rw [wrapI_small (by omega) (by omega)]
  | true =>
    simp only [if_true]
    have ht : (if 20 < v then 20 else v).toNat ≤ 20 := by split <;> omega
    have hmin : min (if 20 < v then 20 else v).toNat 64 = (if 20 < v then 20 else v).toNat := by omega
    rw [hmin]
    generalize (if 20 < v then 20 else v).toNat = t at ht
    have hpow : (2 : Int) ^ t ≤ 2 ^ 20 := by
      have h := Nat.pow_le_pow_right (n := 2) (by omega) ht
      exact_mod_cast h
    have hp1 := two_pow_pos t
    have hbig : b * mi * 2 ^ t ≤ 1000000 * 1048576 := by
      have h1 := Int.mul_le_mul hbm.2 hpow (by omega) (by omega)
      simpa using h1
    have hnn : 0 ≤ b * mi * 2 ^ t := Int.mul_nonneg hbm.1 (by omega)
    rw [wrapI_small (by omega) (by omega)]

theorem unl_mono {b mi mi' v v' : Int} {d : Bool} (b0 : 0 ≤ b) (b1 : b ≤ 1000) (m0 : 0 ≤ mi) (m1 : mi' ≤ 1000) (hm : mi ≤ mi') (v0 : 0 ≤ v) (v1 : v' ≤ 1073741824) (hv : v ≤ v') :
    0 ≤ unl b d mi v ∧ unl b d mi v ≤ unl b d mi' v' := by
  have hbm := bm_range (b := b) (mi := mi) b0 b1 m0 (by omega)
  have hbb : b * mi ≤ b * mi' := Int.mul_le_mul_of_nonneg_left hm b0
  rw [unl_val b0 b1 m0 (by omega) v0 (by omega), unl_val b0 b1 (by omega) m1 (by omega) v1]
  cases d with
  | false =>
    simp only [Bool.false_eq_true, if_false]
    exact ⟨Int.mul_nonneg hbm.1 v0, Int.mul_le_mul hbb hv v0 (by omega)⟩
  | true =>
    simp only [if_true]
    have ht : (if 20 < v then 20 else v).toNat ≤ (if 20 < v' then 20 else v').toNat := by split <;> split <;> omega
    generalize (if 20 < v then 20 else v).toNat = t at ht
    generalize (if 20 < v' then 20 else v').toNat = t' at ht
    have hpow : (2 : Int) ^ t ≤ 2 ^ t' := by
      have h := Nat.pow_le_pow_right (n := 2) (by omega) ht
      exact_mod_cast h
    have hp1 := two_pow_pos t
    exact ⟨Int.mul_nonneg hbm.1 (by omega), Int.mul_le_mul hbb hpow (by omega) (by omega)⟩

/-- The greatest points of a scale. -/
def mostP (n : Nat) (cs : List Value) : Int := if 0 < n then gi cs ((n - 1) * 2 + 1) else 1000000

theorem pts_in {b : Int} {d : Bool} {r : Int} {n : Nat} {cs : List Value} {mi v : Int} (e : scErr b r n cs = 0) (m0 : 0 ≤ mi) (m1 : mi ≤ 1000) (v0 : 0 ≤ v) (v1 : v ≤ 1073741824) :
    pts b d r n cs mi v = if 0 < reach cs v n 0 then gi cs ((reach cs v n 0 - 1) * 2 + 1)
    else if 0 < n then (if gi cs 1 < (if 1000000 < unl b d mi v then 1000000 else unl b d mi v) then gi cs 1 else (if 1000000 < unl b d mi v then 1000000 else unl b d mi v))
    else (if 1000000 < unl b d mi v then 1000000 else unl b d mi v) := by
  unfold pts ptsOf
  rw [if_pos ⟨e, by simp [btw, m0, m1], by simp [btw, v0, v1]⟩]

theorem pts_le {b : Int} {d : Bool} {r : Int} {n : Nat} {cs : List Value} {mi v : Int} (e : scErr b r n cs = 0) (m0 : 0 ≤ mi) (m1 : mi ≤ 1000) (v0 : 0 ≤ v) (v1 : v ≤ 1073741824) :
    0 ≤ pts b d r n cs mi v ∧ pts b d r n cs mi v ≤ mostP n cs := by
  obtain ⟨b0, b1, _, hp⟩ := scErr_ok e
  have hmono := scErr_pts e
  have hq := (unl_mono (d := d) b0 b1 m0 m1 (Int.le_refl mi) v0 v1 (Int.le_refl v)).1
  rw [pts_in e m0 m1 v0 v1]
  have hle := reach_le cs v n 0
  unfold mostP
  generalize unl b d mi v = q at hq
  generalize reach cs v n 0 = k at hle
  by_cases hk : 0 < k
  · rw [if_pos hk, if_pos (by omega)]
    exact ⟨(hp (k - 1) (by omega)).1, hmono (k - 1) (n - 1) (by omega) (by omega)⟩
  · rw [if_neg hk]
    by_cases hn : 0 < n
    · rw [if_pos hn, if_pos hn]
      have h0 := hp 0 hn
      have h1 := hmono 0 (n - 1) (by omega) (by omega)
      rw [Nat.zero_mul, Nat.zero_add] at h0 h1
      generalize gi cs 1 = z at h0 h1 ⊢
      split <;> split <;> (try split) <;> omega
    · rw [if_neg hn, if_neg hn]
      split <;> omega

theorem pts_mono {b : Int} {d : Bool} {r : Int} {n : Nat} {cs : List Value} {mi mi' v v' : Int} (e : scErr b r n cs = 0) (m0 : 0 ≤ mi) (m1 : mi' ≤ 1000) (hm : mi ≤ mi') (v0 : 0 ≤ v) (v1 : v' ≤ 1073741824) (hv : v ≤ v') :
    pts b d r n cs mi v ≤ pts b d r n cs mi' v' := by
  obtain ⟨b0, b1, _, hp⟩ := scErr_ok e
  have hmono := scErr_pts e
  have hq := unl_mono (d := d) b0 b1 m0 m1 hm v0 v1 hv
  rw [pts_in e m0 (by omega) v0 (by omega), pts_in e (by omega) m1 (by omega) v1]
  have hle := reach_le cs v n 0
  have hle' := reach_le cs v' n 0
  have hr := reach_mono cs hv n 0
  generalize unl b d mi v = q at hq
  generalize unl b d mi' v' = q' at hq
  generalize reach cs v n 0 = k at hle hr
  generalize reach cs v' n 0 = k' at hle' hr
  by_cases hk : 0 < k
  · rw [if_pos hk, if_pos (by omega)]
    exact hmono (k - 1) (k' - 1) (by omega) (by omega)
  · rw [if_neg hk]
    by_cases hn : 0 < n
    · rw [if_pos hn]
      have h0 := hp 0 hn
      rw [Nat.zero_mul, Nat.zero_add] at h0
      by_cases hk' : 0 < k'
      · have h1 := hmono 0 (k' - 1) (by omega) (by omega)
        rw [Nat.zero_mul, Nat.zero_add] at h1
        rw [if_pos hk']
        generalize gi cs 1 = z at h0 h1 ⊢
        split <;> split <;> omega
      · rw [if_neg hk', if_pos hn]
        generalize gi cs 1 = z at h0 ⊢
        repeat' split
        all_goals omega
    · rw [if_neg hn]
      by_cases hk' : 0 < k'
      · omega
      · rw [if_neg hk', if_neg hn]
        split <;> split <;> omega

end Go.Proofs.YtbofnpohamajpaaDoor
