/-
  What is proved: checkTiles as answers that calls may take; the bag that the program makes of tiles.
-/
import Derived.Test.YtbpknklnalnihaaTj
namespace Go.Proofs.Ytbpknklnalnihaa
open Go.RowKit
set_option linter.unusedSimpArgs false
set_option linter.unusedVariables false


/-- Answers that hang on a set and a list. -/
noncomputable def ansST (a : SV → (Nat → Int) → Nat → Option Value) : List Value → AH → Option Value
  | [v, .slice (some ⟨2, 0, some 1⟩) n 0], ⟨3, [(2, .ints t), (1, .ints h), (0, .ints g)]⟩ => match seeSet v ⟨2, [(1, .ints h), (0, .ints g)]⟩ with
    | some s => a s t n
    | none => none
  | _, _ => none
theorem ansST_ok {call0 : Hnd} {f : FuncId} {a : SV → (Nat → Int) → Nat → Option Value} (h : ∀ s t n v, a s t n = some v → closedV 5 v = true ∧ (n ≤ 200 → ∃ H', call0 (.func (.func f) #[] #[]) [s.val, sl2 n] (hpT s t) = some (v, H'))) : AnsOK call0 f (ansST a) := by
  intro cargs Hc v hv
  unfold ansST at hv
  split at hv
  · rename_i v0 n t h0 g0
    split at hv
    · rename_i s hs
      obtain ⟨rfl, e⟩ := seeSet_spec hs
      unfold SV.hp at e
      simp only [AH.mk.injEq, List.cons.injEq, Prod.mk.injEq, ABlk.ints.injEq, true_and, and_true] at e
      obtain ⟨rfl, rfl⟩ := e
      exact ⟨(h s t n v hv).1, fun hr => (h s t n v hv).2 (hr.len (j := 1) (i := 2) (g := t) rfl rfl)⟩
    · cases hv
  · cases hv
theorem canH_st {f : FuncId} {a : SV → (Nat → Int) → Nat → Option Value} {s : SV} {t : Nat → Int} {n : Nat} {H : AH} (h0 : lookB H.bs 0 = some (.ints s.g)) (h1 : lookB H.bs 1 = some (.ints s.h)) (h2 : lookB H.bs 2 = some (.ints t)) : canH f (ansST a) (.func (.func f) #[] #[]) [s.val, sl2 n] H = (a s t n).map (·, H) := by
  have e : canon [s.val, sl2 n] H = some ([s.val, sl2 n], hpT s t) := by
    simp [canon, canonL, canonV, idOf, idxOf, SV.val, sl2, canonB, h0, h1, h2, hpT]
  simp only [canH, Nat.beq_refl, if_true, e]
  show (match a s t n with | some v => some (v, H) | none => none) = _
  cases a s t n <;> rfl

theorem ok12 : AnsOK (runH R2) 12 (ansST fun s t n => some (.int .i64 (s.ct t n))) := ansST_ok fun s t n v h => by
  cases h
  refine ⟨rfl, fun hn => ?_⟩
  obtain ⟨H', h⟩ := ct_ev (inH R2) s t n hn (fun H h0 h1 => inH_hd (R2_check s H h0 h1)) (fun H h0 h1 => inH_hd (R2_size s H h0 h1)) (fun n l m H => inH_hd (R2_btw n l m H))
  exact ⟨H', runH_fn F12 rfl h⟩
theorem ok16 : AnsOK (runH R2) 16 (ansST fun s t n => some (.int .i64 (tErr s t n 0))) := ansST_ok fun s t n v h => by
  cases h
  refine ⟨rfl, fun hn => ?_⟩
  obtain ⟨H', h⟩ := rct_ev (inH R2) s t n hn (fun x H h0 h1 => inH_hd (R2_kind s x H h0 h1)) (fun i n g x H h => inH_hd (R2_rhas i n g x H h))
  exact ⟨H', runH_fn F16 rfl h⟩
noncomputable def R3 : Hnd := orH (canH 12 (ansST fun s t n => some (.int .i64 (s.ct t n)))) (orH (canH 16 (ansST fun s t n => some (.int .i64 (tErr s t n 0)))) R2)
theorem R3_ok : CallOK Try.prog R3 := orH_ok (canH_ok (runH_ok R2_ok) ok12) (orH_ok (canH_ok (runH_ok R2_ok) ok16) R2_ok)
theorem R3_ct (s : SV) (t : Nat → Int) (n : Nat) (H : AH) (h0 : lookB H.bs 0 = some (.ints s.g)) (h1 : lookB H.bs 1 = some (.ints s.h)) (h2 : lookB H.bs 2 = some (.ints t)) : R3 (.func (.func 12) #[] #[]) [s.val, sl2 n] H = some (.int .i64 (s.ct t n), H) :=
  orH_l (by rw [canH_st h0 h1 h2]; rfl)
theorem R3_rct (s : SV) (t : Nat → Int) (n : Nat) (H : AH) (h0 : lookB H.bs 0 = some (.ints s.g)) (h1 : lookB H.bs 1 = some (.ints s.h)) (h2 : lookB H.bs 2 = some (.ints t)) : R3 (.func (.func 16) #[] #[]) [s.val, sl2 n] H = some (.int .i64 (tErr s t n 0), H) :=
  orH_r (canH_other rfl) (orH_l (by rw [canH_st h0 h1 h2]; rfl))

/-! ### bags -/
/-- How many of the first tiles are of a kind. -/
noncomputable def cntK (s : SV) (t : Nat → Int) : Nat → Nat → Int
  | 0, _ => 0
  | i + 1, j => cntK s t i j + if s.kindOf (t i) = (j : Int) then 1 else 0
theorem cntK_bnd (s : SV) (t : Nat → Int) : ∀ i j, 0 ≤ cntK s t i j ∧ cntK s t i j ≤ i
  | 0, j => by simp [cntK]
  | i + 1, j => by
    have := cntK_bnd s t i j
    rw [cntK]
    split <;> omega
noncomputable def bagC (s : SV) (t : Nat → Int) (k i : Nat) : List Value := intsL (fun j => cntK s t i j) k
theorem bagC_len (s : SV) (t : Nat → Int) (k i : Nat) : (bagC s t k i).length = k := intsL_len _ _
theorem bagC_at (s : SV) (t : Nat → Int) (k i q : Nat) (h : q < k) : (bagC s t k i)[q]? = some (.int .i64 (cntK s t i q)) := intsL_at _ _ _ h
theorem bagC_get (s : SV) (t : Nat → Int) (k i q : Nat) (h : q < (bagC s t k i).length) : (bagC s t k i)[q] = .int .i64 (cntK s t i q) := by
  have h' : q < k := by rw [bagC_len] at h; exact h
  have := bagC_at s t k i q h'
  rw [List.getElem?_eq_getElem h] at this
  exact Option.some.inj this
theorem bagC_set (s : SV) (t : Nat → Int) (k i q : Nat) (h : q < k) (e : s.kindOf (t i) = (q : Int)) : (bagC s t k i).set q (.int .i64 (cntK s t i q + 1)) = bagC s t k (i + 1) := by
  apply List.ext_getElem?
  intro j
  rcases Nat.lt_or_ge j k with hj | hj
  · rw [bagC_at s t k (i + 1) j hj, List.getElem?_set, bagC_len, cntK, e]
    by_cases hq : q = j
    · subst hq; simp [h]
    · have : ¬ ((q : Int) = (j : Int)) := by omega
      simp [hq, bagC_at s t k i j hj, this]
  · rw [List.getElem?_eq_none (by rw [List.length_set, bagC_len]; exact hj), List.getElem?_eq_none (by rw [bagC_len]; exact hj)]
theorem bagC_same (s : SV) (t : Nat → Int) (k i : Nat) (e : (k : Int) ≤ s.kindOf (t i)) : bagC s t k (i + 1) = bagC s t k i := by
  apply List.ext_getElem?
  intro j
  rcases Nat.lt_or_ge j k with hj | hj
  · have : ¬ (s.kindOf (t i) = (j : Int)) := by omega
    rw [bagC_at s t k (i + 1) j hj, bagC_at s t k i j hj, cntK, if_neg this, Int.add_zero]
  · rw [List.getElem?_eq_none (by rw [bagC_len]; exact hj), List.getElem?_eq_none (by rw [bagC_len]; exact hj)]
theorem tErr_in {s : SV} {t : Nat → Int} : ∀ {m i : Nat}, tErr s t m i = 0 → ∀ j, i ≤ j → j < i + m → s.inB (t j) = true
  | 0, i, _, j, h1, h2 => by omega
  | m + 1, i, h, j, h1, h2 => by
    rw [tErr] at h
    split at h
    · cases h
    · rename_i hb
      split at h
      · cases h
      · rcases Nat.lt_or_ge i j with h3 | h3
        · exact tErr_in h j (by omega) (by omega)
        · obtain rfl : j = i := by omega
          simpa using hb
theorem kindOf_in {s : SV} {x : Int} (h : s.inB x = true) : s.kindOf x = s.faceK x ∧ 0 ≤ s.faceK x := by
  have := kindOf_neg s x
  rw [h] at this
  have e : s.kindOf x = s.faceK x := by simp [SV.kindOf, h]
  simp at this
  exact ⟨e, by omega⟩

theorem MK22 (H : AH) (k : Nat) (hk : k ≤ 60000) : aMake (tabT Try.prog) H 22 (.int .i64 (k : Int)) (.int .i64 (k : Int)) = some (.slice (some ⟨H.next, 0, none⟩) k 1, pushB H (.cells false (intsL (fun _ => 0) k))) := by
  have h3 : ((tabT Try.prog) 3).map (fun y => (y.size, y.bytes, y.zero.cells)) = some (1, 8, #[.int .i64 0]) := by kernel_rfl
  obtain ⟨_, _, _, _, ht⟩ := tdesc (T := (tabT Try.prog)) (t := 22) (d := .slice 3) (by kernel_rfl)
  cases he : (tabT Try.prog) 3 with
  | none => rw [he] at h3; cases h3
  | some y =>
    rw [he] at h3
    simp only [Option.map_some, Option.some.injEq, Prod.mk.injEq] at h3
    obtain ⟨e1, e2, e3⟩ := h3
    have b1 : Nat.ble k 65536 = true := by rw [Nat.ble_eq]; omega
    have b2 : Nat.ble (8 * k) 1000000000 = true := by rw [Nat.ble_eq]; omega
    simp only [aMake, natV, ht, he, e1, e2, e3, Nat.mul_one]
    have hn : natV (.int .i64 (k : Int)) = some k := rfl
    simp [b1, b2, intsL, pushB]
    intro a ha
    have : ¬ k = 0 := by omega
    simp [this, Nat.mod_one]
theorem MKT22 (H : AH) (x y : Value) : aMakeT (tabT Try.prog) H 22 x y = none := by
  have h3 : ((tabT Try.prog) 3).map (fun y => y.desc) = some (.int .i64) := by kernel_rfl
  obtain ⟨_, _, _, _, ht⟩ := tdesc (T := (tabT Try.prog)) (t := 22) (d := .slice 3) (by kernel_rfl)
  obtain ⟨_, _, _, _, he⟩ := tdesc h3
  simp only [aMakeT, ht, he]
  cases natV x <;> cases natV y <;> rfl
theorem IX22p (i k q : Nat) (h : q < k) : aIndexAddr (tabT Try.prog) 22 (.slice (some ⟨i, 0, none⟩) k 1) (.int .i64 (q : Int)) = some (.pointer (some ⟨i, q, none⟩)) := by
  rw [ixa (e := 3) (z := 1) (by kernel_rfl) (by kernel_rfl) i 0 k 1 q h]
  simp
theorem ST3 (H : AH) (i off : Nat) (v : Value) : aStore (tabT Try.prog) H 3 (.pointer (some ⟨i, off, none⟩)) v = match lookB H.bs i with
    | some (.cells false cs) => if Nat.beq v.cells.toList.length 1 && Nat.ble (off + v.cells.toList.length) cs.length && v.cells.toList.all cellV then some { H with bs := setB H.bs i (.cells false (putF cs off v.cells.toList)) } else none
    | _ => none := sti (by kernel_rfl) H i off v

end Go.Proofs.Ytbpknklnalnihaa
