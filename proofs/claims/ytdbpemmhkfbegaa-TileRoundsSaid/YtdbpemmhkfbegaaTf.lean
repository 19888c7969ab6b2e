/-
  What is proved: tile.Check and the document's own Check answer alike, for every set with lists of at most 200 numbers; and what follows for a set that has no error.
-/
import Derived.Test.YtdbpemmhkfbegaaTe
namespace Go.Proofs.Ytdbpemmhkfbegaa
open Go.RowKit
set_option linter.unusedSimpArgs false
set_option linter.unusedVariables false


theorem err_eq (s : SV) : s.err = s.rerr := by
  simp only [SV.err, firstE, ruleB, ruleE, SV.rerr]
  by_cases c2 : (s.n : Int) ≤ 3
  · have c2' : ¬ 3 < (s.n : Int) := by omega
    by_cases c9 : s.plain ≥ 1
    · have c9' : ¬ s.plain < 1 := by omega
      by_cases c11 : s.size ≥ wrapI .i64 (wrapI .i64 (wrapI .i64 (s.p * s.full) + 1) + s.de)
      · have c11' : ¬ s.size < wrapI .i64 (wrapI .i64 (wrapI .i64 (s.p * s.full) + 1) + s.de) := by omega
        by_cases c10 : s.reds = 0
        · cases btw s.p 3 4 <;> cases anyBad s.g s.n <;> cases btw s.w 0 4 <;> cases btw s.d 0 3 <;> cases btw s.f 0 8 <;> cases btw s.c 1 4 <;> cases btw s.m 1 4 <;> cases btw s.de 0 20 <;> simp [c2, c2', c9, c9', c10, c11, c11']
        · cases btw s.p 3 4 <;> cases anyBad s.g s.n <;> cases btw s.w 0 4 <;> cases btw s.d 0 3 <;> cases btw s.f 0 8 <;> cases btw s.c 1 4 <;> cases btw s.m 1 4 <;> cases btw s.de 0 20 <;> simp [c2, c2', c9, c9', c10, c11, c11']
      · have c11' : s.size < wrapI .i64 (wrapI .i64 (wrapI .i64 (s.p * s.full) + 1) + s.de) := by omega
        by_cases c10 : s.reds = 0
        · cases btw s.p 3 4 <;> cases anyBad s.g s.n <;> cases btw s.w 0 4 <;> cases btw s.d 0 3 <;> cases btw s.f 0 8 <;> cases btw s.c 1 4 <;> cases btw s.m 1 4 <;> cases btw s.de 0 20 <;> simp [c2, c2', c9, c9', c10, c11, c11']
        · cases btw s.p 3 4 <;> cases anyBad s.g s.n <;> cases btw s.w 0 4 <;> cases btw s.d 0 3 <;> cases btw s.f 0 8 <;> cases btw s.c 1 4 <;> cases btw s.m 1 4 <;> cases btw s.de 0 20 <;> simp [c2, c2', c9, c9', c10, c11, c11']
    · have c9' : s.plain < 1 := by omega
      cases btw s.p 3 4 <;> cases anyBad s.g s.n <;> cases btw s.w 0 4 <;> cases btw s.d 0 3 <;> cases btw s.f 0 8 <;> cases btw s.c 1 4 <;> cases btw s.m 1 4 <;> cases btw s.de 0 20 <;> simp [c2, c2', c9, c9']
  · have c2' : 3 < (s.n : Int) := by omega
    cases btw s.p 3 4 <;> simp [c2, c2']

theorem btw_iff {n l m : Int} : btw n l m = true ↔ l ≤ n ∧ n ≤ m := by simp [btw]

/-- What a set without an error has. -/
theorem err_zero {s : SV} (h : s.err = 0) : (3 ≤ s.p ∧ s.p ≤ 4) ∧ s.n ≤ 3 ∧ (1 ≤ s.m ∧ s.m ≤ 4) ∧ (0 ≤ s.de ∧ s.de ≤ 20) ∧ 0 < s.size := by
  rw [err_eq, SV.rerr] at h
  split at h
  · rename_i c1
    split at h
    · cases h
    · rename_i c2
      split at h
      · cases h
      · split at h
        · split at h
          · rename_i c7
            simp only [Bool.and_eq_true, btw_iff] at c1 c7
            split at h
            · cases h
            · split at h
              · split at h
                · cases h
                · rename_i c11
                  have hf : s.full = 3 * s.m + 1 := by
                    unfold SV.full
                    rw [wrapI_small (n := 3 * s.m) (by omega) (by omega), wrapI_small (by omega) (by omega)]
                  have hpf : 0 ≤ s.p * s.full ∧ s.p * s.full ≤ 52 := by
                    rw [hf]
                    obtain ⟨⟨_, hm⟩, _⟩ := c7
                    have h34 : s.p = 3 ∨ s.p = 4 := by omega
                    rcases h34 with e | e <;> rw [e] <;> omega
                  rw [wrapI_small (n := s.p * s.full) (by omega) (by omega), wrapI_small (n := s.p * s.full + 1) (by omega) (by omega), wrapI_small (by omega) (by omega)] at c11
                  refine ⟨c1, by omega, c7.1.2, c7.2, by omega⟩
              · rename_i c; exact absurd h c
          · cases h
        · cases h
  · cases h

noncomputable def aErr (s : SV) : Option Value := some (.int .i64 s.err)

theorem ok17 : AnsOK (runH L3) 56 (ans1 aErr) := ans1_ok fun s v h => by
  cases h
  refine ⟨rfl, fun _ _ => ?_⟩
  obtain ⟨H', h⟩ := check_ev s
  exact ⟨H', runH_fn F17 rfl h⟩

theorem ok18 : AnsOK (runH L0) 30 (ans1 aErr) := ans1_ok fun s v h => by
  cases h
  refine ⟨rfl, fun hn hk => ?_⟩
  obtain ⟨H', h⟩ := rcheck_ev (inH L0) (fun n l m H => inH_hd (L0_78 n l m H)) (fun s H h0 h1 => inH_hd (L0_79 s H h0 h1)) s hn hk
  rw [err_eq]
  exact ⟨H', runH_fn F18 rfl h⟩

noncomputable def L4 : Hnd := orH (canH 56 (ans1 aErr)) (orH (canH 30 (ans1 aErr)) L3)
theorem L4_ok : CallOK Try.prog L4 := orH_ok (canH_ok (runH_ok L3_ok) ok17) (orH_ok (canH_ok (runH_ok L0_ok) ok18) L3_ok)

theorem L4_17 (s : SV) (H : AH) (h0 : lookB H.bs 0 = some (.ints s.g)) (h1 : lookB H.bs 1 = some (.ints s.h)) : inH L4 (.func (.func 56) #[] #[]) [s.val] H = some (.int .i64 s.err, H) :=
  inH_hd (orH_l (canH_set h0 h1))
theorem L4_18 (s : SV) (H : AH) (h0 : lookB H.bs 0 = some (.ints s.g)) (h1 : lookB H.bs 1 = some (.ints s.h)) : inH L4 (.func (.func 30) #[] #[]) [s.val] H = some (.int .i64 s.err, H) :=
  inH_hd (orH_r (canH_other rfl) (orH_l (canH_set h0 h1)))
theorem L4_79 (s : SV) (H : AH) (h0 : lookB H.bs 0 = some (.ints s.g)) (h1 : lookB H.bs 1 = some (.ints s.h)) : inH L4 (.func (.func 35) #[] #[]) [s.val] H = some (.int .i64 s.plain, H) :=
  inH_hd (orH_r (canH_other rfl) (orH_r (canH_other rfl) (orH_l (orH_l (orH_l (L0_79 s H h0 h1))))))
theorem L4_76 (s : SV) (H : AH) (h0 : lookB H.bs 0 = some (.ints s.g)) (h1 : lookB H.bs 1 = some (.ints s.h)) : inH L4 (.func (.func 53) #[] #[]) [s.val] H = some (.int .i64 s.size, H) :=
  inH_hd (orH_r (canH_other rfl) (orH_r (canH_other rfl) (orH_l (orH_l (orH_r rfl (orH_r (canH_other rfl) (orH_r (canH_other rfl) (canH_set h0 h1))))))))
theorem L4_72 (n l m : Int) (H : AH) : inH L4 (.func (.func 31) #[] #[]) [.int .i64 n, .int .i64 l, .int .i64 m] H = some (.bool (btw n l m), H) :=
  inH_hd (orH_r (canH_other rfl) (orH_r (canH_other rfl) rfl))
theorem L4_78 (n l m : Int) (H : AH) : inH L4 (.func (.func 52) #[] #[]) [.int .i64 n, .int .i64 l, .int .i64 m] H = some (.bool (btw n l m), H) :=
  inH_hd (orH_r (canH_other rfl) (orH_r (canH_other rfl) rfl))


end Go.Proofs.Ytdbpemmhkfbegaa
