/-
  What is proved: the list that tile.Orphans makes row by row is the list that the document's own Orphans makes kind by kind.
-/
import Derived.Test.YtkoppbbmdjhaoaaKm
namespace Go.Proofs.Ytkoppbbmdjhaoaa
open Go.RowKit
set_option linter.unusedSimpArgs false

theorem orphL_congr {p p' : Int → Bool} : ∀ (m i : Nat), (∀ j : Nat, i ≤ j → j < i + m → p j = p' j) → orphL p m i = orphL p' m i
  | 0, _, _ => rfl
  | m + 1, i, h => by
    simp only [orphL, h i (Nat.le_refl _) (by omega)]
    rw [orphL_congr m (i + 1) fun j h1 h2 => h j (by omega) (by omega)]

theorem orphL_add (p : Int → Bool) : ∀ (a b i : Nat), orphL p (a + b) i = orphL p a i ++ orphL p b (i + a)
  | 0, b, i => by simp [orphL]
  | a + 1, b, i => by
    rw [show a + 1 + b = (a + b) + 1 by omega]
    simp only [orphL]
    rw [orphL_add p a b (i + 1), show i + 1 + a = i + (a + 1) by omega]
    split <;> simp

theorem rowX_orphL {p : Int → Bool} {su : Int} {q : Nat} : ∀ (k : Nat) (r : Int) (c : Nat) (l : List Int), (∀ j : Nat, c ≤ j → j < c + k → p j = orphP su (r + ((j : Int) - c)) q) → rowX (stO su q) k r c l = l ++ orphL p k c
  | 0, _, _, l, _ => by simp [rowX, orphL]
  | k + 1, r, c, l, h => by
    have h0 := h c (Nat.le_refl _) (by omega)
    rw [show r + ((c : Int) - c) = r by omega] at h0
    have ih := rowX_orphL (p := p) (su := su) (q := q) k (r + 1) (c + 1) (stO su q r c l) fun j h1 h2 => by
      rw [h j (by omega) (by omega)]
      congr 1
      omega
    simp only [rowX, orphL]
    rw [show ((c : Int) + 1) = ((c + 1 : Nat) : Int) by omega, ih]
    simp only [stO, h0]
    split <;> simp

def total : List (Int × Nat) → Nat
  | [] => 0
  | (_, q) :: l => q + total l

def orphQ (x : Option (Int × Int × Int)) : Bool :=
  match x with
  | none => true
  | some (su, r, q) => decide (su < 0) || (decide (r = 0) || decide (r = q - 1))

theorem orphQ_P {su r q : Int} (h : su = -1 ∨ su = -2 ∨ 0 ≤ su) : orphQ (some (su, r, q)) = orphP su r q := by
  unfold orphQ orphP
  rcases h with rfl | rfl | h
  · simp
  · simp
  · have h1 : ¬ su < 0 := by omega
    have h2 : ¬ su = -1 := by omega
    have h3 : ¬ su = -2 := by omega
    simp [h, h1, h2, h3]

theorem rowsX_orphL (t : List (Int × Nat)) : ∀ (rows : List (Int × Nat)) (c : Nat) (l : List Int), (∀ p ∈ rows, p.1 = -1 ∨ p.1 = -2 ∨ 0 ≤ p.1) →
    rowsX stO rows c l = l ++ orphL (fun x => orphQ (findRows (rows ++ t) c x)) (total rows) c
  | [], c, l, _ => by simp [rowsX, orphL, total]
  | (su, q) :: rest, c, l, h => by
    have hsu := h _ List.mem_cons_self
    simp only at hsu
    have h1 := rowX_orphL (p := fun x => orphQ (findRows (((su, q) :: rest) ++ t) c x)) (su := su) (q := q) q 0 c l fun j j1 j2 => by
      simp only [List.cons_append, findRows]
      rw [if_pos (by omega), orphQ_P hsu]
      congr 1
      omega
    have h2 := rowsX_orphL t rest (c + q) (rowX (stO su q) q 0 c l) fun p hp => h p (List.mem_cons_of_mem _ hp)
    simp only [rowsX, total]
    rw [show ((c : Int) + (q : Int)) = ((c + q : Nat) : Int) by omega, h2, h1, orphL_add, List.append_assoc]
    congr 2
    refine orphL_congr _ _ fun j j1 j2 => ?_
    simp only [List.cons_append, findRows]
    rw [if_neg (by omega)]
    congr 2

theorem total_app : ∀ (a b : List (Int × Nat)), total (a ++ b) = total a + total b
  | [], b => by simp [total]
  | (_, q) :: a, b => by simp only [List.cons_append, total, total_app a b]; omega

theorem sum_total {s : SV} (hs : s.Small) : ∀ (k i : Nat) (a : Int), i + k = s.n → 0 ≤ a → a ≤ 7 + 9 * i → sumG s.g k i a = a + total (suitRows s.g k i)
  | 0, i, a, _, _, _ => by simp [sumG, suitRows, total]
  | k + 1, i, a, hi, h0, h9 => by
    have hn := hs.n
    obtain ⟨b1, b2⟩ := hs.g i (by omega)
    simp only [sumG, suitRows, total]
    rw [wrapI_small (by omega) (by omega), sum_total hs k (i + 1) (a + s.g i) (by omega) (by omega) (by omega)]
    omega

theorem torphs_eq (s : SV) : s.torphs = s.orphs := by
  unfold SV.torphs SV.orphs SV.kinds
  by_cases he : s.err = 0
  · rw [if_pos he, if_pos he]
    have hs := small_of_err he
    obtain ⟨p0, p1, e0⟩ := plain_small hs
    obtain ⟨w1, w2⟩ := hs.w
    obtain ⟨d1, d2⟩ := hs.d
    have hsum := sum_total hs s.n 0 (s.w + s.d) (by omega) (by omega) (by omega)
    have hpl : s.plain = s.w + s.d + total (suitRows s.g s.n 0) := by rw [← hsum, SV.plain, e0]
    have hrows : s.rows = (suitRows s.g s.n 0 ++ [(-1, s.w.toNat), (-2, s.d.toNat)]) ++ [(-3, s.f.toNat)] := by simp [SV.rows, SV.tail]
    have happ : ∀ (a b : List (Int × Nat)) (c : Int) (l : List Int), rowsX stO (a ++ b) c l = rowsX stO b (c + total a) (rowsX stO a c l) := by
      intro a
      induction a with
      | nil => intro b c l; simp [rowsX, total]
      | cons x a ih =>
        obtain ⟨su, q⟩ := x
        intro b c l
        simp only [List.cons_append, rowsX, total]
        rw [ih, show c + (q : Int) + (total a : Int) = c + ((q + total a : Nat) : Int) by omega]
    have hfl : ∀ (q k : Nat) (r c : Int) (l : List Int), rowX (stO (-3) q) k r c l = l := by
      intro q k
      induction k with
      | zero => intro r c l; rfl
      | succ k ih => intro r c l; simp only [rowX]; rw [ih]; simp [stO, orphP]
    have h1 := rowsX_orphL [(-3, s.f.toNat)] (suitRows s.g s.n 0 ++ [(-1, s.w.toNat), (-2, s.d.toNat)]) 0 [] fun p hp => by
      rcases List.mem_append.1 hp with hp | hp
      · obtain ⟨su, q⟩ := p
        obtain ⟨j, _, _, e, _⟩ := suitRows_mem _ _ _ _ hp
        simp only
        omega
      · simp only [List.mem_cons, List.not_mem_nil, or_false] at hp
        rcases hp with rfl | rfl
        · exact .inl rfl
        · exact .inr (.inl rfl)
    rw [← hrows] at h1
    have ht : total (suitRows s.g s.n 0 ++ [(-1, s.w.toNat), (-2, s.d.toNat)]) = s.plain.toNat := by
      rw [total_app]
      simp only [total]
      omega
    rw [hrows, happ]
    simp only [rowsX, hfl]
    rw [show (0 : Int) = ((0 : Nat) : Int) from rfl, h1, ht, List.nil_append]
    refine orphL_congr _ _ fun j j1 j2 => ?_
    simp only [SV.orph, SV.find, if_pos he, orphQ]
    rfl
  · rw [if_neg he, if_neg he]
    rfl

end Go.Proofs.Ytkoppbbmdjhaoaa
