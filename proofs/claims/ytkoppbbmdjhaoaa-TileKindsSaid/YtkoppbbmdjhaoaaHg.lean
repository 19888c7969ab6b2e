/-
  What is proved: the body of the law TileCuts answers true, for every set, dealer and dice.
-/
import Derived.Test.YtkoppbbmdjhaoaaHf
import Derived.Test.YtkoppbbmdjhaoaaEvV
namespace Go.Proofs.Ytkoppbbmdjhaoaa
open Go.RowKit
set_option linter.unusedSimpArgs false

/-- Answers that hang on a set, a dealer and dice. -/
def seeDV : List Value → AH → Option DV
  | [w, .int .i64 dl, .slice (some ⟨2, 0, some 1⟩) q 0], ⟨3, [(2, .ints z), (1, .ints h), (0, .ints g)]⟩ =>
    match seeSet w ⟨2, [(1, .ints h), (0, .ints g)]⟩ with
    | some s => some ⟨s, dl, q, z⟩
    | none => none
  | _, _ => none

theorem seeDV_spec {l : List Value} {H : AH} {v : DV} (h : seeDV l H = some v) : l = v.args ∧ H = v.hp := by
  unfold seeDV at h
  split at h
  · split at h
    · rename_i s hs
      obtain ⟨rfl, e⟩ := seeSet_spec hs
      cases h
      simp only [SV.hp, AH.mk.injEq, List.cons.injEq, Prod.mk.injEq, ABlk.ints.injEq] at e
      obtain ⟨_, ⟨_, rfl⟩, ⟨_, rfl⟩, _⟩ := e
      exact ⟨rfl, rfl⟩
    · cases h
  · cases h

def ansD (a : DV → Option Value) : List Value → AH → Option Value := fun l H =>
  match seeDV l H with
  | some v => a v
  | none => none

theorem ansD_ok {call0 : Hnd} {f : FuncId} {a : DV → Option Value}
    (h : ∀ v r, a v = some r → closedV 5 r = true ∧ (v.q ≤ 200 → ∃ H', call0 (.func (.func f) #[] #[]) v.args v.hp = some (r, H'))) : AnsOK call0 f (ansD a) := by
  intro cargs Hc r hr
  unfold ansD at hr
  split at hr
  · rename_i v hs
    obtain ⟨rfl, rfl⟩ := seeDV_spec hs
    exact ⟨(h v r hr).1, fun hre => (h v r hr).2 (hre.len (j := 2) (i := 2) (g := v.z) rfl rfl)⟩
  · cases hr

theorem canH_dv {f : FuncId} {a : DV → Option Value} {v : DV} {H : AH} (h0 : lookB H.bs 0 = some (.ints v.s.g)) (h1 : lookB H.bs 1 = some (.ints v.s.h)) (h2 : lookB H.bs 2 = some (.ints v.z)) :
    canH f (ansD a) (.func (.func f) #[] #[]) v.args H = (a v).map (·, H) := by
  simp [canH, canon, canonL, canonV, idOf, idxOf, SV.val, DV.args, canonB, h0, h1, h2, ansD, seeDV, seeSet]
  cases a v <;> rfl

def aCerr (v : DV) : Option Value := some (.int .i64 v.cerr)
def aCut (v : DV) : Option Value := some v.cut
def aRsize (s : SV) : Option Value := some (.int .i64 s.rsize)
def aLong (s : SV) : Option Value := some (.bool s.long)

theorem ok102 : AnsOK (runH L4) 102 (ansD aCerr) := ansD_ok fun v r h => by
  cases h
  refine ⟨rfl, fun hq => ?_⟩
  obtain ⟨H', h⟩ := checkCut_ev (inH L4) L4_17 L4_72 v hq
  exact ⟨H', runH_fn F102 rfl h⟩
theorem ok22 : AnsOK (runH L4) 22 (ans1 aRsize) := ans1_ok fun s v h => by
  cases h
  refine ⟨rfl, fun _ _ => ?_⟩
  obtain ⟨H', h⟩ := rsize_ev (inH L4) L4_18 L4_79 s
  exact ⟨H', runH_fn F22 rfl h⟩
theorem ok15 : AnsOK (runH L4) 15 (ans1 aLong) := ans1_ok fun s v h => by
  cases h
  refine ⟨rfl, fun _ _ => ?_⟩
  obtain ⟨H', h⟩ := long_ev (inH L4) s
  exact ⟨H', runH_fn F15 rfl h⟩

def L5 : Hnd := orH (canH 102 (ansD aCerr)) (orH (canH 22 (ans1 aRsize)) (orH (canH 15 (ans1 aLong)) L4))
theorem L5_ok : CallOK Try.prog L5 :=
  have h := runH_ok L4_ok
  orH_ok (canH_ok h ok102) (orH_ok (canH_ok h ok22) (orH_ok (canH_ok h ok15) L4_ok))

theorem L5_102 (v : DV) (H : AH) (h0 : lookB H.bs 0 = some (.ints v.s.g)) (h1 : lookB H.bs 1 = some (.ints v.s.h)) (h2 : lookB H.bs 2 = some (.ints v.z)) : inH L5 (.func (.func 102) #[] #[]) v.args H = some (.int .i64 v.cerr, H) :=
  inH_hd (orH_l (canH_dv h0 h1 h2))
theorem L5_22 (s : SV) (H : AH) (h0 : lookB H.bs 0 = some (.ints s.g)) (h1 : lookB H.bs 1 = some (.ints s.h)) : inH L5 (.func (.func 22) #[] #[]) [s.val] H = some (.int .i64 s.rsize, H) :=
  inH_hd (orH_r (canH_other rfl) (orH_l (canH_set h0 h1)))
theorem L5_18 (s : SV) (H : AH) (h0 : lookB H.bs 0 = some (.ints s.g)) (h1 : lookB H.bs 1 = some (.ints s.h)) : inH L5 (.func (.func 18) #[] #[]) [s.val] H = some (.int .i64 s.err, H) :=
  inH_hd (orH_r (canH_other rfl) (orH_r (canH_other rfl) (orH_r (canH_other rfl) (orH_r (canH_other rfl) (orH_l (canH_set h0 h1))))))
theorem L5_76 (s : SV) (H : AH) (h0 : lookB H.bs 0 = some (.ints s.g)) (h1 : lookB H.bs 1 = some (.ints s.h)) : inH L5 (.func (.func 76) #[] #[]) [s.val] H = some (.int .i64 s.size, H) :=
  inH_hd (orH_r (canH_other rfl) (orH_r (canH_other rfl) (orH_r (canH_other rfl) (orH_r (canH_other rfl) (orH_r (canH_other rfl) (orH_l (orH_l (orH_r rfl (orH_r (canH_other rfl) (orH_r (canH_other rfl) (canH_set h0 h1)))))))))))
theorem L5_78 (n l m : Int) (H : AH) : inH L5 (.func (.func 78) #[] #[]) [.int .i64 n, .int .i64 l, .int .i64 m] H = some (.bool (btw n l m), H) :=
  inH_hd (orH_r (canH_other rfl) (orH_r (canH_other rfl) (orH_r (canH_other rfl) (orH_r (canH_other rfl) (orH_r (canH_other rfl) rfl)))))

theorem cut_closed (v : DV) : closedV 5 v.cut = true := by
  unfold DV.cut
  split <;> rfl

theorem ok54 : AnsOK (runH L5) 54 (ansD aCut) := ansD_ok fun v r h => by
  cases h
  refine ⟨cut_closed v, fun hq => ?_⟩
  obtain ⟨H', h⟩ := cut_ev (inH L5) L5_102 L5_76 v hq
  exact ⟨H', runH_fn F54 rfl h⟩
theorem ok55 : AnsOK (runH L5) 55 (ansD aCut) := ansD_ok fun v r h => by
  cases h
  refine ⟨cut_closed v, fun hq => ?_⟩
  obtain ⟨H', h⟩ := rcut_ev (inH L5) L5_18 L5_22 L5_78 v hq
  exact ⟨H', runH_fn F55 rfl h⟩

/-- The program's own examples hold. -/
def ansTrue : List Value → AH → Option Value
  | [], ⟨0, []⟩ => some (.bool true)
  | _, _ => none

noncomputable def runM : Hnd := evCall (tabT Try.prog) (tabF Try.prog) 300 kpT memCF 13

theorem ok25 : AnsOK runM 25 ansTrue := by
  intro cargs Hc v h
  unfold ansTrue at h
  split at h
  · cases h
    refine ⟨rfl, fun _ => ?_⟩
    have ha := awake_ev
    unfold said at ha
    split at ha
    · rename_i c H' hev
      have hc : c = true := by simpa using ha
      subst hc
      refine ⟨H', ?_⟩
      unfold runM
      rw [evCall_succ]
      have hn : memCF (.func (.func 25) #[] #[]) [] ⟨0, []⟩ = none := by kernel_rfl
      rw [hn]
      simp only [F25]
      simpa using hev
    · cases ha
  · cases h

def L6 : Hnd := orH (canH 54 (ansD aCut)) (orH (canH 55 (ansD aCut)) (orH (canH 25 ansTrue) (canH 15 (ans1 aLong))))
theorem L6_ok : CallOK Try.prog L6 :=
  orH_ok (canH_ok (runH_ok L5_ok) ok54) (orH_ok (canH_ok (runH_ok L5_ok) ok55) (orH_ok (canH_ok (evCall_sound (tabT_ok _) (tabF_ok _) mixed 300 kpT memCF_ok 13) ok25) (canH_ok (runH_ok L4_ok) ok15)))

theorem L6_54 (v : DV) (H : AH) (h0 : lookB H.bs 0 = some (.ints v.s.g)) (h1 : lookB H.bs 1 = some (.ints v.s.h)) (h2 : lookB H.bs 2 = some (.ints v.z)) : inH L6 (.func (.func 54) #[] #[]) v.args H = some (v.cut, H) :=
  inH_hd (orH_l (canH_dv h0 h1 h2))
theorem L6_55 (v : DV) (H : AH) (h0 : lookB H.bs 0 = some (.ints v.s.g)) (h1 : lookB H.bs 1 = some (.ints v.s.h)) (h2 : lookB H.bs 2 = some (.ints v.z)) : inH L6 (.func (.func 55) #[] #[]) v.args H = some (v.cut, H) :=
  inH_hd (orH_r (canH_other rfl) (orH_l (canH_dv h0 h1 h2)))
theorem L6_25 (H : AH) : inH L6 (.func (.func 25) #[] #[]) [] H = some (.bool true, H) :=
  inH_hd (orH_r (canH_other rfl) (orH_r (canH_other rfl) (orH_l rfl)))
theorem L6_15 (s : SV) (H : AH) (h0 : lookB H.bs 0 = some (.ints s.g)) (h1 : lookB H.bs 1 = some (.ints s.h)) : inH L6 (.func (.func 15) #[] #[]) [s.val] H = some (.bool s.long, H) :=
  inH_hd (orH_r (canH_other rfl) (orH_r (canH_other rfl) (orH_r (canH_other rfl) (canH_set h0 h1))))

end Go.Proofs.Ytkoppbbmdjhaoaa
