/-
  What is proved: the small functions' answers, as answers that calls may take (for every set and every memory).
-/
import Derived.Test.YtdbpemmhkfbegaaTb
namespace Go.Proofs.Ytdbpemmhkfbegaa
open Go.RowKit
set_option linter.unusedSimpArgs false
set_option linter.unusedVariables false


abbrev Hnd := Value → List Value → AH → Option (Value × AH)
/-- A run of calls that takes what the handler knows. -/
noncomputable def runH (hd : Hnd) : Hnd := evCall (tabT Try.prog) (tabF Try.prog) 300 kpT hd 9

theorem runH_ok {hd : Hnd} (h : CallOK Try.prog hd) : CallOK Try.prog (runH hd) := evCall_sound (tabT_ok _) (tabF_ok _) mixed 300 kpT h 9
/-- The calls inside of a function that is run. -/
noncomputable def inH (hd : Hnd) : Hnd := evCall (tabT Try.prog) (tabF Try.prog) 300 kpT hd 8
theorem evCall_fn {L n : Nat} {hd : Hnd} {f : FuncId} {fn : Func} {args : List Value} {H : AH} (hF : tabF Try.prog f = some fn) (hh : hd (.func (.func f) #[] #[]) args H = none) :
    evCall (tabT Try.prog) (tabF Try.prog) L kpT hd (n + 1) (.func (.func f) #[] #[]) args H = evFn (tabT Try.prog) (evCall (tabT Try.prog) (tabF Try.prog) L kpT hd n) L kpT f fn args H := by
  conv => lhs; unfold evCall
  simp only [hh, hF]
  rw [twT_no rfl]
  simp
theorem evCall_hd {L n : Nat} {hd : Hnd} {fv : Value} {args : List Value} {H : AH} {r : Value × AH} (h : hd fv args H = some r) : evCall (tabT Try.prog) (tabF Try.prog) L kpT hd (n + 1) fv args H = some r := by
  unfold evCall
  simp only [h]
theorem runH_fn {hd : Hnd} {f : FuncId} {fn : Func} {args : List Value} {H H' : AH} {v : Value} (hF : tabF Try.prog f = some fn) (hh : hd (.func (.func f) #[] #[]) args H = none)
    (h : evFn (tabT Try.prog) (inH hd) 300 kpT f fn args H = some (v, H')) : runH hd (.func (.func f) #[] #[]) args H = some (v, H') := (evCall_fn (n := 8) hF hh).trans h
theorem inH_hd {hd : Hnd} {fv : Value} {args : List Value} {H : AH} {r : Value × AH} (h : hd fv args H = some r) : inH hd fv args H = some r := evCall_hd (n := 7) h

theorem canH_set {f : FuncId} {a : SV → Option Value} {s : SV} {H : AH} (h0 : lookB H.bs 0 = some (.ints s.g)) (h1 : lookB H.bs 1 = some (.ints s.h)) :
    canH f (ans1 a) (.func (.func f) #[] #[]) [s.val] H = (a s).map (·, H) := by
  simp [canH, canon, canonL, canonV, idOf, idxOf, SV.val, canonB, h0, h1, ans1, seeSet]
  cases a s <;> rfl

theorem orH_l {a b : Hnd} {fv : Value} {args : List Value} {H : AH} {r : Value × AH} (h : a fv args H = some r) : orH a b fv args H = some r := by simp [orH, h]
theorem orH_r {a b : Hnd} {fv : Value} {args : List Value} {H : AH} {r : Option (Value × AH)} (ha : a fv args H = none) (h : b fv args H = r) : orH a b fv args H = r := by simp [orH, ha, h]
theorem canH_other {f g : FuncId} {ans : List Value → AH → Option Value} {args : List Value} {H : AH} (h : Nat.beq g f = false) : canH f ans (.func (.func g) #[] #[]) args H = none := by
  simp [canH, h]

noncomputable def ansB : List Value → AH → Option Value
  | [.int .i64 n, .int .i64 l, .int .i64 m], _ => some (.bool (btw n l m))
  | _, _ => none

noncomputable def aPlain (s : SV) : Option Value := some (.int .i64 s.plain)
noncomputable def aFull (s : SV) : Option Value := some (.int .i64 s.full)
noncomputable def aReds (s : SV) : Option Value := some (.int .i64 s.reds)

theorem ok72 : AnsOK (runH noH) 31 ansB := by
  intro cargs Hc v h
  unfold ansB at h
  split at h
  · rename_i n l m
    cases h
    refine ⟨rfl, fun _ => ?_⟩
    obtain ⟨H', h⟩ := between_ev (inH noH) n l m Hc
    exact ⟨H', runH_fn F72 rfl h⟩
  · cases h

theorem ok78 : AnsOK (runH noH) 52 ansB := by
  intro cargs Hc v h
  unfold ansB at h
  split at h
  · rename_i n l m
    cases h
    refine ⟨rfl, fun _ => ?_⟩
    obtain ⟨H', h⟩ := rbetween_ev (inH noH) n l m Hc
    exact ⟨H', runH_fn F78 rfl h⟩
  · cases h

theorem ok75 : AnsOK (runH noH) 54 (ans1 aPlain) := ans1_ok fun s v h => by
  cases h
  refine ⟨rfl, fun hn _ => ?_⟩
  obtain ⟨H', h⟩ := plainKinds_ev (inH noH) s hn
  exact ⟨H', runH_fn F75 rfl h⟩

theorem ok79 : AnsOK (runH noH) 35 (ans1 aPlain) := ans1_ok fun s v h => by
  cases h
  refine ⟨rfl, fun hn _ => ?_⟩
  obtain ⟨H', h⟩ := plain_ev (inH noH) s hn
  exact ⟨H', runH_fn F79 rfl h⟩

theorem ok77 : AnsOK (runH noH) 63 (ans1 aFull) := ans1_ok fun s v h => by
  cases h
  refine ⟨rfl, fun _ _ => ?_⟩
  obtain ⟨H', h⟩ := full_ev (inH noH) s
  exact ⟨H', runH_fn F77 rfl h⟩

noncomputable def L0 : Hnd := orH (canH 31 ansB) (orH (canH 52 ansB) (orH (canH 54 (ans1 aPlain)) (orH (canH 35 (ans1 aPlain)) (canH 63 (ans1 aFull)))))

theorem L0_ok : CallOK Try.prog L0 :=
  have h := runH_ok noH_ok
  orH_ok (canH_ok h ok72) (orH_ok (canH_ok h ok78) (orH_ok (canH_ok h ok75) (orH_ok (canH_ok h ok79) (canH_ok h ok77))))

theorem L0_72 (n l m : Int) (H : AH) : L0 (.func (.func 31) #[] #[]) [.int .i64 n, .int .i64 l, .int .i64 m] H = some (.bool (btw n l m), H) := rfl
theorem L0_78 (n l m : Int) (H : AH) : L0 (.func (.func 52) #[] #[]) [.int .i64 n, .int .i64 l, .int .i64 m] H = some (.bool (btw n l m), H) := rfl
theorem L0_75 (s : SV) (H : AH) (h0 : lookB H.bs 0 = some (.ints s.g)) (h1 : lookB H.bs 1 = some (.ints s.h)) : L0 (.func (.func 54) #[] #[]) [s.val] H = some (.int .i64 s.plain, H) :=
  orH_r (canH_other rfl) (orH_r (canH_other rfl) (orH_l (canH_set h0 h1)))
theorem L0_79 (s : SV) (H : AH) (h0 : lookB H.bs 0 = some (.ints s.g)) (h1 : lookB H.bs 1 = some (.ints s.h)) : L0 (.func (.func 35) #[] #[]) [s.val] H = some (.int .i64 s.plain, H) :=
  orH_r (canH_other rfl) (orH_r (canH_other rfl) (orH_r (canH_other rfl) (orH_l (canH_set h0 h1))))

/-! ### The second row -/
noncomputable def ansBad : List Value → AH → Option Value
  | [.int .i64 n], _ => some (.bool (!btw n 1 9))
  | _, _ => none

noncomputable def SV.size (s : SV) : Int := wrapI .i64 (wrapI .i64 (s.plain * s.c) + s.f)
noncomputable def aSize (s : SV) : Option Value := some (.int .i64 s.size)

theorem ok74 : AnsOK (runH L0) 69 ansBad := by
  intro cargs Hc v h
  unfold ansBad at h
  split at h
  · cases h
    refine ⟨rfl, fun _ => ?_⟩
    obtain ⟨H', h⟩ := badSuit_ev (inH L0) (fun n l m H => inH_hd (L0_72 n l m H)) ‹_› Hc
    exact ⟨H', runH_fn F74 rfl h⟩
  · cases h

theorem ok71 : AnsOK (runH L0) 67 (ans1 aReds) := ans1_ok fun s v h => by
  cases h
  refine ⟨rfl, fun _ hk => ?_⟩
  obtain ⟨H', h⟩ := checkReds_ev (inH L0) (fun n l m H => inH_hd (L0_72 n l m H)) (fun s H h0 h1 => inH_hd (L0_75 s H h0 h1)) s hk
  exact ⟨H', runH_fn F71 rfl h⟩

theorem size_ev (s : SV) : (evFn (tabT Try.prog) (inH L0) 300 kpT 53 Try.f53 [s.val] s.hp).map (·.1) = some (.int .i64 s.size) := by kernel_rfl

theorem ok76 : AnsOK (runH L0) 53 (ans1 aSize) := ans1_ok fun s v h => by
  cases h
  refine ⟨rfl, fun _ _ => ?_⟩
  have h := size_ev s
  simp only [Option.map_eq_some_iff] at h
  obtain ⟨⟨v, H'⟩, h, e⟩ := h
  cases e
  exact ⟨H', runH_fn F76 rfl h⟩

noncomputable def L1 : Hnd := orH L0 (orH (canH 69 ansBad) (orH (canH 67 (ans1 aReds)) (canH 53 (ans1 aSize))))
theorem L1_ok : CallOK Try.prog L1 :=
  have h := runH_ok L0_ok
  orH_ok L0_ok (orH_ok (canH_ok h ok74) (orH_ok (canH_ok h ok71) (canH_ok h ok76)))

/-! ### The third and the fourth row -/
noncomputable def ansIdx : List Value → AH → Option Value
  | [.slice (some ⟨0, 0, some 1⟩) n 0, .func (.func 69) ⟨[]⟩ ⟨[]⟩], ⟨1, [(0, .ints g)]⟩ => some (.int .i64 (idxBad g n 0))
  | _, _ => none
noncomputable def ansAny : List Value → AH → Option Value
  | [.slice (some ⟨0, 0, some 1⟩) n 0, .func (.func 69) ⟨[]⟩ ⟨[]⟩], ⟨1, [(0, .ints g)]⟩ => some (.bool (anyBad g n))
  | _, _ => none

theorem ok109 : AnsOK (runH L1) 73 ansIdx := by
  intro cargs Hc v h
  unfold ansIdx at h
  split at h
  · rename_i n g
    cases h
    refine ⟨rfl, fun hr => ?_⟩
    obtain ⟨H', h⟩ := indexFunc_ev (inH L1) (fun n H => inH_hd rfl) g n (hr.len (j := 0) (i := 0) (g := g) rfl rfl)
    exact ⟨H', runH_fn F109 rfl h⟩
  · cases h

noncomputable def L2 : Hnd := orH L1 (canH 73 ansIdx)
theorem L2_ok : CallOK Try.prog L2 := orH_ok L1_ok (canH_ok (runH_ok L1_ok) ok109)

theorem L2_109 (g : Nat → Int) (n : Nat) (H : AH) (h : lookB H.bs 0 = some (.ints g)) : L2 (.func (.func 73) #[] #[]) [sl1 n, .func (.func 69) #[] #[]] H = some (.int .i64 (idxBad g n 0), H) :=
  orH_r (by rfl) (by simp [canH, canon, canonL, canonV, idOf, idxOf, sl1, canonB, h, ansIdx])

theorem ok73 : AnsOK (runH L2) 68 ansAny := by
  intro cargs Hc v h
  unfold ansAny at h
  split at h
  · rename_i n g
    cases h
    refine ⟨rfl, fun _ => ?_⟩
    obtain ⟨H', h⟩ := containsFunc_ev (inH L2) (fun g n H h => inH_hd (L2_109 g n H h)) g n
    exact ⟨H', runH_fn F73 rfl h⟩
  · cases h

noncomputable def L3 : Hnd := orH L2 (canH 68 ansAny)
theorem L3_ok : CallOK Try.prog L3 := orH_ok L2_ok (canH_ok (runH_ok L2_ok) ok73)


end Go.Proofs.Ytdbpemmhkfbegaa
