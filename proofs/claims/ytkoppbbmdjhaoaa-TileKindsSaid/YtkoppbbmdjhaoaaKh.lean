/-
  What is proved: Place, Kind, Red, Runs and After of both packages, as answers that calls may take.
-/
import Derived.Test.YtkoppbbmdjhaoaaKg
namespace Go.Proofs.Ytkoppbbmdjhaoaa
open Go.RowKit
set_option linter.unusedSimpArgs false

/-! ### Whether a list has a number -/
def ansIx : List Value → AH → Option Value
  | [.slice (some ⟨0, 0, some 1⟩) n 0, .int .i64 x], ⟨1, [(0, .ints g)]⟩ => some (.int .i64 (idxOfG g x n 0))
  | _, _ => none
def ansHas : List Value → AH → Option Value
  | [.slice (some ⟨0, 0, some 1⟩) n 0, .int .i64 x], ⟨1, [(0, .ints g)]⟩ => some (.bool (hasG g n x))
  | _, _ => none

theorem ok119 : AnsOK (runH noH) 119 ansIx := by
  intro cargs Hc v h
  unfold ansIx at h
  split at h
  · rename_i n x g
    cases h
    refine ⟨rfl, fun hr => ?_⟩
    obtain ⟨H', h⟩ := index_ev (inH noH) g n x (hr.len (j := 0) (i := 0) (g := g) rfl rfl)
    exact ⟨H', runH_fn F119 rfl h⟩
  · cases h
theorem ok86 : AnsOK (runH noH) 86 ansHas := by
  intro cargs Hc v h
  unfold ansHas at h
  split at h
  · rename_i n x g
    cases h
    refine ⟨rfl, fun hr => ?_⟩
    obtain ⟨H', h⟩ := has_ev (inH noH) g n x (hr.len (j := 0) (i := 0) (g := g) rfl rfl)
    exact ⟨H', runH_fn F86 rfl h⟩
  · cases h
theorem canH_lst {f : FuncId} {ans : List Value → AH → Option Value} {i n : Nat} {g : Nat → Int} {x : Int} {H : AH} (h : lookB H.bs i = some (.ints g)) :
    canH f ans (.func (.func f) #[] #[]) [.slice (some ⟨i, 0, some 1⟩) n 0, .int .i64 x] H = (ans [sl1 n, .int .i64 x] (hp1 g)).map (·, H) := by
  simp [canH, canon, canonL, canonV, idOf, idxOf, canonB, h, sl1, hp1]
  generalize ans _ _ = x
  cases x <;> rfl

def G0 : Hnd := canH 119 ansIx
theorem G0_ok : CallOK Try.prog G0 := canH_ok (runH_ok noH_ok) ok119
theorem ok110 : AnsOK (runH G0) 110 ansHas := by
  intro cargs Hc v h
  unfold ansHas at h
  split at h
  · rename_i n x g
    cases h
    refine ⟨rfl, fun _ => ?_⟩
    obtain ⟨H', h⟩ := contains_ev (inH G0) (fun g n x H h => inH_hd (by unfold G0 sl1; rw [canH_lst h]; rfl)) g n x
    exact ⟨H', runH_fn F110 rfl h⟩
  · cases h

/-! ### Answers that hang on a set and a number -/
def ansSK (a : SV → Int → Option Value) : List Value → AH → Option Value
  | [v, .int .i64 k], H => match seeSet v H with
    | some s => a s k
    | none => none
  | _, _ => none
theorem ansSK_ok {call0 : Hnd} {f : FuncId} {a : SV → Int → Option Value} (h : ∀ s k v, a s k = some v → closedV 5 v = true ∧ ∃ H', call0 (.func (.func f) #[] #[]) [s.val, .int .i64 k] s.hp = some (v, H')) : AnsOK call0 f (ansSK a) := by
  intro cargs Hc v hv
  unfold ansSK at hv
  split at hv
  · split at hv
    · rename_i s hs
      obtain ⟨rfl, rfl⟩ := seeSet_spec hs
      exact ⟨(h _ _ _ hv).1, fun _ => (h _ _ _ hv).2⟩
    · cases hv
  · cases hv
theorem canH_sk {f : FuncId} {a : SV → Int → Option Value} {s : SV} {k : Int} {H : AH} (h0 : lookB H.bs 0 = some (.ints s.g)) (h1 : lookB H.bs 1 = some (.ints s.h)) : canH f (ansSK a) (.func (.func f) #[] #[]) [s.val, .int .i64 k] H = (a s k).map (·, H) := by
  rw [canH_si h0 h1]
  rfl

theorem M7_76k (s : SV) (H : AH) (h0 : lookB H.bs 0 = some (.ints s.g)) (h1 : lookB H.bs 1 = some (.ints s.h)) : inH M7 (.func (.func 76) #[] #[]) [s.val] H = some (.int .i64 s.size, H) :=
  inH_hd (orH_r (canH_other rfl) (orH_r (canH_other rfl) (orH_r (canH_other rfl) (orH_r (canH_other rfl) (orH_r (canH_other rfl) (orH_l (orH_l (orH_r rfl (orH_r (canH_other rfl) (orH_r (canH_other rfl) (canH_set h0 h1)))))))))))
theorem ok21k : AnsOK (runH M7) 21 (ans1 aRsize) := ans1_ok fun s v h => by
  cases h
  refine ⟨rfl, fun _ _ => ?_⟩
  obtain ⟨H', h⟩ := tsize_ev (inH M7) M7_80 M7_76k s
  exact ⟨H', runH_fn F21 rfl h⟩

def aMany (s : SV) (su : Int) : Option Value := if su = -1 ∨ su = -2 ∨ su = -3 then some (.int .i64 (s.many su)) else if 0 ≤ su ∧ su < s.n then some (.int .i64 (s.many su)) else none
theorem aMany_some {s : SV} {su : Int} (h : (su = -1 ∨ su = -2 ∨ su = -3) ∨ ∃ i : Nat, i < s.n ∧ su = i) : aMany s su = some (.int .i64 (s.many su)) := by
  unfold aMany
  rcases h with h | ⟨i, hi, rfl⟩
  · rw [if_pos h]
  · split
    · rfl
    · rw [if_pos (by omega)]
theorem ok88 : AnsOK (runH M8) 88 (ansSK aMany) := ansSK_ok fun s su v h => by
  have hc : (su = -1 ∨ su = -2 ∨ su = -3) ∨ ∃ i : Nat, i < s.n ∧ su = i := by
    unfold aMany at h
    split at h
    · rename_i c
      exact .inl c
    · split at h
      · rename_i c
        exact .inr ⟨su.toNat, by omega, by omega⟩
      · cases h
  rw [aMany_some hc] at h
  cases h
  obtain ⟨H', h⟩ := many_ev (inH M8) s su hc
  exact ⟨rfl, H', runH_fn F88 rfl h⟩

def R1 : Hnd := orH (canH 110 ansHas) (orH (canH 86 ansHas) (orH (canH 88 (ansSK aMany)) (orH (canH 21 (ans1 aRsize)) (orH (canH 22 (ans1 aRsize)) M8))))
theorem R1_ok : CallOK Try.prog R1 :=
  orH_ok (canH_ok (runH_ok G0_ok) ok110) (orH_ok (canH_ok (runH_ok noH_ok) ok86) (orH_ok (canH_ok (runH_ok M8_ok) ok88) (orH_ok (canH_ok (runH_ok M7_ok) ok21k) (orH_ok (canH_ok (runH_ok L4_ok) ok22) M8_ok))))
theorem R1_110 (i n : Nat) (g : Nat → Int) (x : Int) (H : AH) (h : lookB H.bs i = some (.ints g)) : inH R1 (.func (.func 110) #[] #[]) [.slice (some ⟨i, 0, some 1⟩) n 0, .int .i64 x] H = some (.bool (hasG g n x), H) :=
  inH_hd (orH_l (by rw [canH_lst h]; rfl))
theorem R1_86 (i n : Nat) (g : Nat → Int) (x : Int) (H : AH) (h : lookB H.bs i = some (.ints g)) : inH R1 (.func (.func 86) #[] #[]) [.slice (some ⟨i, 0, some 1⟩) n 0, .int .i64 x] H = some (.bool (hasG g n x), H) :=
  inH_hd (orH_r (canH_other rfl) (orH_l (by rw [canH_lst h]; rfl)))
theorem R1_88 (s : SV) (su : Int) (H : AH) (hc : (su = -1 ∨ su = -2 ∨ su = -3) ∨ ∃ i : Nat, i < s.n ∧ su = i) (h0 : lookB H.bs 0 = some (.ints s.g)) (h1 : lookB H.bs 1 = some (.ints s.h)) : inH R1 (.func (.func 88) #[] #[]) [s.val, .int .i64 su] H = some (.int .i64 (s.many su), H) :=
  inH_hd (orH_r (canH_other rfl) (orH_r (canH_other rfl) (orH_l (by rw [canH_sk h0 h1, aMany_some hc]; rfl))))
theorem R1_21 (s : SV) (H : AH) (h0 : lookB H.bs 0 = some (.ints s.g)) (h1 : lookB H.bs 1 = some (.ints s.h)) : inH R1 (.func (.func 21) #[] #[]) [s.val] H = some (.int .i64 s.rsize, H) := inH_hd (orH_r (canH_other rfl) (orH_r (canH_other rfl) (orH_r (canH_other rfl) (orH_l (canH_set h0 h1)))))
theorem R1_22 (s : SV) (H : AH) (h0 : lookB H.bs 0 = some (.ints s.g)) (h1 : lookB H.bs 1 = some (.ints s.h)) : inH R1 (.func (.func 22) #[] #[]) [s.val] H = some (.int .i64 s.rsize, H) := inH_hd (orH_r (canH_other rfl) (orH_r (canH_other rfl) (orH_r (canH_other rfl) (orH_r (canH_other rfl) (orH_l (canH_set h0 h1))))))
theorem R1_84 (s : SV) (k : Int) (H : AH) (h0 : lookB H.bs 0 = some (.ints s.g)) (h1 : lookB H.bs 1 = some (.ints s.h)) : inH R1 (.func (.func 84) #[] #[]) [s.val, .int .i64 k] H = some (findV (s.find k), H) := inH_hd (orH_r (canH_other rfl) (orH_r (canH_other rfl) (orH_r (canH_other rfl) (orH_r (canH_other rfl) (orH_r (canH_other rfl) (orH_l (by rw [canH_si h0 h1]; rfl)))))))
theorem R1_27 (s : SV) (k : Int) (H : AH) (h0 : lookB H.bs 0 = some (.ints s.g)) (h1 : lookB H.bs 1 = some (.ints s.h)) : inH R1 (.func (.func 27) #[] #[]) [s.val, .int .i64 k] H = some (placeT (s.find k), H) := inH_hd (orH_r (canH_other rfl) (orH_r (canH_other rfl) (orH_r (canH_other rfl) (orH_r (canH_other rfl) (orH_r (canH_other rfl) (orH_r (canH_other rfl) (orH_r (canH_other rfl) (orH_l (by rw [canH_si h0 h1]; rfl)))))))))
theorem R1_72 (n l m : Int) (H : AH) : inH R1 (.func (.func 72) #[] #[]) [.int .i64 n, .int .i64 l, .int .i64 m] H = some (.bool (btw n l m), H) := inH_hd rfl
theorem R1_75 (s : SV) (H : AH) (h0 : lookB H.bs 0 = some (.ints s.g)) (h1 : lookB H.bs 1 = some (.ints s.h)) : inH R1 (.func (.func 75) #[] #[]) [s.val] H = some (.int .i64 s.plain, H) :=
  inH_hd (orH_r (canH_other rfl) (orH_r (canH_other rfl) (orH_r (canH_other rfl) (orH_r (canH_other rfl) (orH_r (canH_other rfl) (orH_r (canH_other rfl) (orH_r (canH_other rfl) (orH_r (canH_other rfl) (orH_r (canH_other rfl) (orH_r (canH_other rfl) (orH_r (canH_other rfl) (orH_r (canH_other rfl) (orH_r (canH_other rfl) (orH_r (canH_other rfl) (orH_l (orH_l (orH_l (L0_75 s H h0 h1))))))))))))))))))
theorem R1_79 (s : SV) (H : AH) (h0 : lookB H.bs 0 = some (.ints s.g)) (h1 : lookB H.bs 1 = some (.ints s.h)) : inH R1 (.func (.func 79) #[] #[]) [s.val] H = some (.int .i64 s.plain, H) :=
  inH_hd (orH_r (canH_other rfl) (orH_r (canH_other rfl) (orH_r (canH_other rfl) (orH_r (canH_other rfl) (orH_r (canH_other rfl) (orH_r (canH_other rfl) (orH_r (canH_other rfl) (orH_r (canH_other rfl) (orH_r (canH_other rfl) (orH_r (canH_other rfl) (orH_r (canH_other rfl) (orH_r (canH_other rfl) (orH_r (canH_other rfl) (orH_r (canH_other rfl) (orH_l (orH_l (orH_l (L0_79 s H h0 h1))))))))))))))))))

def aFace (s : SV) (t : Int) : Option Value := if s.inB t = true then some (faceV (s.faceK t) (s.faceR t)) else none
theorem ok85 : AnsOK (runH R1) 85 (ansSK aFace) := ansSK_ok fun s t v h => by
  unfold aFace at h
  split at h
  · rename_i hb
    cases h
    obtain ⟨_, hT⟩ := tile_of hb
    obtain ⟨H', h⟩ := face_ev (inH R1) s t (fun H => R1_75 s H) R1_110 hT
    exact ⟨rfl, H', runH_fn F85 rfl h⟩
  · cases h
def aKindOf (s : SV) (t : Int) : Option Value := some (.int .i64 (s.kindOf t))
def aRedOf (s : SV) (t : Int) : Option Value := some (.bool (s.redOf t))
def aPlace (s : SV) (t : Int) : Option Value := some (placeT (s.find t))
def aRuns (s : SV) (t : Int) : Option Value := some (.bool (s.runs t))
def aAft (s : SV) (t : Int) : Option Value := some (.int .i64 (s.aft t))

theorem ok29 : AnsOK (runH R1) 29 (ansSK aKindOf) := ansSK_ok fun s t v h => by
  cases h
  obtain ⟨H', h⟩ := rkind_ev (inH R1) s t (fun H => R1_22 s H) (fun H => R1_79 s H)
  exact ⟨rfl, H', runH_fn F29 rfl h⟩
theorem ok26 : AnsOK (runH R1) 26 (ansSK aPlace) := ansSK_ok fun s t v h => by
  cases h
  obtain ⟨H', h⟩ := place_ev (inH R1) s t (fun H => R1_84 s t H)
  exact ⟨placeT_closed _, H', runH_fn F26 rfl h⟩
theorem ok32 : AnsOK (runH R1) 32 (ansSK aRuns) := ansSK_ok fun s t v h => by
  cases h
  obtain ⟨H', h⟩ := runs_ev (inH R1) s t (fun H => R1_84 s t H)
  exact ⟨rfl, H', runH_fn F32 rfl h⟩
theorem ok33 : AnsOK (runH R1) 33 (ansSK aRuns) := ansSK_ok fun s t v h => by
  cases h
  obtain ⟨H', h⟩ := rruns_ev (inH R1) s t (fun H => R1_27 s t H)
  exact ⟨rfl, H', runH_fn F33 rfl h⟩
theorem ok37 : AnsOK (runH R1) 37 (ansSK aAft) := ansSK_ok fun s t v h => by
  cases h
  obtain ⟨H', h⟩ := after_ev (inH R1) s t (fun H => R1_84 s t H)
  exact ⟨rfl, H', runH_fn F37 rfl h⟩
theorem ok38 : AnsOK (runH R1) 38 (ansSK aAft) := ansSK_ok fun s t v h => by
  cases h
  obtain ⟨H', h⟩ := rafter_ev (inH R1) s t (fun H => R1_27 s t H) (fun su H hc => R1_88 s su H hc)
  exact ⟨rfl, H', runH_fn F38 rfl h⟩

def R2 : Hnd := orH (canH 85 (ansSK aFace)) (orH (canH 29 (ansSK aKindOf)) R1)
theorem R2_ok : CallOK Try.prog R2 := orH_ok (canH_ok (runH_ok R1_ok) ok85) (orH_ok (canH_ok (runH_ok R1_ok) ok29) R1_ok)
theorem R2_85 (s : SV) (t : Int) (H : AH) (hb : s.inB t = true) (h0 : lookB H.bs 0 = some (.ints s.g)) (h1 : lookB H.bs 1 = some (.ints s.h)) : inH R2 (.func (.func 85) #[] #[]) [s.val, .int .i64 t] H = some (faceV (s.faceK t) (s.faceR t), H) :=
  inH_hd (orH_l (by rw [canH_sk h0 h1, aFace, if_pos hb]; rfl))
theorem R2_29 (s : SV) (t : Int) (H : AH) (h0 : lookB H.bs 0 = some (.ints s.g)) (h1 : lookB H.bs 1 = some (.ints s.h)) : inH R2 (.func (.func 29) #[] #[]) [s.val, .int .i64 t] H = some (.int .i64 (s.kindOf t), H) :=
  inH_hd (orH_r (canH_other rfl) (orH_l (by rw [canH_sk h0 h1]; rfl)))
theorem R2_21 (s : SV) (H : AH) (h0 : lookB H.bs 0 = some (.ints s.g)) (h1 : lookB H.bs 1 = some (.ints s.h)) : inH R2 (.func (.func 21) #[] #[]) [s.val] H = some (.int .i64 s.rsize, H) := inH_hd (orH_r (canH_other rfl) (orH_r (canH_other rfl) (orH_r (canH_other rfl) (orH_r (canH_other rfl) (orH_r (canH_other rfl) (orH_l (canH_set h0 h1)))))))
theorem R2_72 (n l m : Int) (H : AH) : inH R2 (.func (.func 72) #[] #[]) [.int .i64 n, .int .i64 l, .int .i64 m] H = some (.bool (btw n l m), H) := inH_hd rfl
theorem R2_79 (s : SV) (H : AH) (h0 : lookB H.bs 0 = some (.ints s.g)) (h1 : lookB H.bs 1 = some (.ints s.h)) : inH R2 (.func (.func 79) #[] #[]) [s.val] H = some (.int .i64 s.plain, H) := inH_hd (orH_r (canH_other rfl) (orH_r (canH_other rfl) (orH_r (canH_other rfl) (orH_r (canH_other rfl) (orH_r (canH_other rfl) (orH_r (canH_other rfl) (orH_r (canH_other rfl) (orH_r (canH_other rfl) (orH_r (canH_other rfl) (orH_r (canH_other rfl) (orH_r (canH_other rfl) (orH_r (canH_other rfl) (orH_r (canH_other rfl) (orH_r (canH_other rfl) (orH_r (canH_other rfl) (orH_r (canH_other rfl) (orH_l (orH_l (orH_l (L0_79 s H h0 h1))))))))))))))))))))
theorem R2_86 (i n : Nat) (g : Nat → Int) (x : Int) (H : AH) (h : lookB H.bs i = some (.ints g)) : inH R2 (.func (.func 86) #[] #[]) [.slice (some ⟨i, 0, some 1⟩) n 0, .int .i64 x] H = some (.bool (hasG g n x), H) :=
  inH_hd (orH_r (canH_other rfl) (orH_r (canH_other rfl) (orH_r (canH_other rfl) (orH_l (by rw [canH_lst h]; rfl)))))

theorem ok28 : AnsOK (runH R2) 28 (ansSK aKindOf) := ansSK_ok fun s t v h => by
  cases h
  obtain ⟨H', h⟩ := kind_ev (inH R2) s t (fun H => R2_21 s H) R2_72 (fun H hb => R2_85 s t H hb)
  exact ⟨rfl, H', runH_fn F28 rfl h⟩
theorem ok30 : AnsOK (runH R2) 30 (ansSK aRedOf) := ansSK_ok fun s t v h => by
  cases h
  obtain ⟨H', h⟩ := red_ev (inH R2) s t (fun H => R2_21 s H) R2_72 (fun H hb => R2_85 s t H hb)
  exact ⟨rfl, H', runH_fn F30 rfl h⟩
theorem ok31 : AnsOK (runH R2) 31 (ansSK aRedOf) := ansSK_ok fun s t v h => by
  cases h
  obtain ⟨H', h⟩ := rred_ev (inH R2) s t (fun H => R2_29 s t H) (fun H => R2_79 s H) R2_86
  exact ⟨rfl, H', runH_fn F31 rfl h⟩

def R3 : Hnd := orH (canH 26 (ansSK aPlace)) (orH (canH 28 (ansSK aKindOf)) (orH (canH 30 (ansSK aRedOf)) (orH (canH 31 (ansSK aRedOf)) (orH (canH 32 (ansSK aRuns)) (orH (canH 33 (ansSK aRuns)) (orH (canH 37 (ansSK aAft)) (orH (canH 38 (ansSK aAft)) R2)))))))
theorem R3_ok : CallOK Try.prog R3 := orH_ok (canH_ok (runH_ok R1_ok) ok26) (orH_ok (canH_ok (runH_ok R2_ok) ok28) (orH_ok (canH_ok (runH_ok R2_ok) ok30) (orH_ok (canH_ok (runH_ok R2_ok) ok31) (orH_ok (canH_ok (runH_ok R1_ok) ok32) (orH_ok (canH_ok (runH_ok R1_ok) ok33) (orH_ok (canH_ok (runH_ok R1_ok) ok37) (orH_ok (canH_ok (runH_ok R1_ok) ok38) (R2_ok))))))))
theorem R3_26 (s : SV) (t : Int) (H : AH) (h0 : lookB H.bs 0 = some (.ints s.g)) (h1 : lookB H.bs 1 = some (.ints s.h)) : inH R3 (.func (.func 26) #[] #[]) [s.val, .int .i64 t] H = some (placeT (s.find t), H) := inH_hd (orH_l (by rw [canH_sk h0 h1]; rfl))
theorem R3_28 (s : SV) (t : Int) (H : AH) (h0 : lookB H.bs 0 = some (.ints s.g)) (h1 : lookB H.bs 1 = some (.ints s.h)) : inH R3 (.func (.func 28) #[] #[]) [s.val, .int .i64 t] H = some (.int .i64 (s.kindOf t), H) := inH_hd (orH_r (canH_other rfl) (orH_l (by rw [canH_sk h0 h1]; rfl)))
theorem R3_30 (s : SV) (t : Int) (H : AH) (h0 : lookB H.bs 0 = some (.ints s.g)) (h1 : lookB H.bs 1 = some (.ints s.h)) : inH R3 (.func (.func 30) #[] #[]) [s.val, .int .i64 t] H = some (.bool (s.redOf t), H) := inH_hd (orH_r (canH_other rfl) (orH_r (canH_other rfl) (orH_l (by rw [canH_sk h0 h1]; rfl))))
theorem R3_31 (s : SV) (t : Int) (H : AH) (h0 : lookB H.bs 0 = some (.ints s.g)) (h1 : lookB H.bs 1 = some (.ints s.h)) : inH R3 (.func (.func 31) #[] #[]) [s.val, .int .i64 t] H = some (.bool (s.redOf t), H) := inH_hd (orH_r (canH_other rfl) (orH_r (canH_other rfl) (orH_r (canH_other rfl) (orH_l (by rw [canH_sk h0 h1]; rfl)))))
theorem R3_32 (s : SV) (t : Int) (H : AH) (h0 : lookB H.bs 0 = some (.ints s.g)) (h1 : lookB H.bs 1 = some (.ints s.h)) : inH R3 (.func (.func 32) #[] #[]) [s.val, .int .i64 t] H = some (.bool (s.runs t), H) := inH_hd (orH_r (canH_other rfl) (orH_r (canH_other rfl) (orH_r (canH_other rfl) (orH_r (canH_other rfl) (orH_l (by rw [canH_sk h0 h1]; rfl))))))
theorem R3_33 (s : SV) (t : Int) (H : AH) (h0 : lookB H.bs 0 = some (.ints s.g)) (h1 : lookB H.bs 1 = some (.ints s.h)) : inH R3 (.func (.func 33) #[] #[]) [s.val, .int .i64 t] H = some (.bool (s.runs t), H) := inH_hd (orH_r (canH_other rfl) (orH_r (canH_other rfl) (orH_r (canH_other rfl) (orH_r (canH_other rfl) (orH_r (canH_other rfl) (orH_l (by rw [canH_sk h0 h1]; rfl)))))))
theorem R3_37 (s : SV) (t : Int) (H : AH) (h0 : lookB H.bs 0 = some (.ints s.g)) (h1 : lookB H.bs 1 = some (.ints s.h)) : inH R3 (.func (.func 37) #[] #[]) [s.val, .int .i64 t] H = some (.int .i64 (s.aft t), H) := inH_hd (orH_r (canH_other rfl) (orH_r (canH_other rfl) (orH_r (canH_other rfl) (orH_r (canH_other rfl) (orH_r (canH_other rfl) (orH_r (canH_other rfl) (orH_l (by rw [canH_sk h0 h1]; rfl))))))))
theorem R3_38 (s : SV) (t : Int) (H : AH) (h0 : lookB H.bs 0 = some (.ints s.g)) (h1 : lookB H.bs 1 = some (.ints s.h)) : inH R3 (.func (.func 38) #[] #[]) [s.val, .int .i64 t] H = some (.int .i64 (s.aft t), H) := inH_hd (orH_r (canH_other rfl) (orH_r (canH_other rfl) (orH_r (canH_other rfl) (orH_r (canH_other rfl) (orH_r (canH_other rfl) (orH_r (canH_other rfl) (orH_r (canH_other rfl) (orH_l (by rw [canH_sk h0 h1]; rfl)))))))))
theorem R3_27 (s : SV) (t : Int) (H : AH) (h0 : lookB H.bs 0 = some (.ints s.g)) (h1 : lookB H.bs 1 = some (.ints s.h)) : inH R3 (.func (.func 27) #[] #[]) [s.val, .int .i64 t] H = some (placeT (s.find t), H) := inH_hd (orH_r (canH_other rfl) (orH_r (canH_other rfl) (orH_r (canH_other rfl) (orH_r (canH_other rfl) (orH_r (canH_other rfl) (orH_r (canH_other rfl) (orH_r (canH_other rfl) (orH_r (canH_other rfl) (orH_r (canH_other rfl) (orH_r (canH_other rfl) (orH_r (canH_other rfl) (orH_r (canH_other rfl) (orH_r (canH_other rfl) (orH_r (canH_other rfl) (orH_r (canH_other rfl) (orH_r (canH_other rfl) (orH_r (canH_other rfl) (orH_l (by rw [canH_si h0 h1]; rfl)))))))))))))))))))
theorem R3_29 (s : SV) (t : Int) (H : AH) (h0 : lookB H.bs 0 = some (.ints s.g)) (h1 : lookB H.bs 1 = some (.ints s.h)) : inH R3 (.func (.func 29) #[] #[]) [s.val, .int .i64 t] H = some (.int .i64 (s.kindOf t), H) := inH_hd (orH_r (canH_other rfl) (orH_r (canH_other rfl) (orH_r (canH_other rfl) (orH_r (canH_other rfl) (orH_r (canH_other rfl) (orH_r (canH_other rfl) (orH_r (canH_other rfl) (orH_r (canH_other rfl) (orH_r (canH_other rfl) (orH_l (by rw [canH_sk h0 h1]; rfl)))))))))))
theorem R3_25 (H : AH) : inH R3 (.func (.func 25) #[] #[]) [] H = some (.bool true, H) := inH_hd (orH_r (canH_other rfl) (orH_r (canH_other rfl) (orH_r (canH_other rfl) (orH_r (canH_other rfl) (orH_r (canH_other rfl) (orH_r (canH_other rfl) (orH_r (canH_other rfl) (orH_r (canH_other rfl) (orH_r (canH_other rfl) (orH_r (canH_other rfl) (orH_r (canH_other rfl) (orH_r (canH_other rfl) (orH_r (canH_other rfl) (orH_r (canH_other rfl) (orH_r (canH_other rfl) (orH_r (canH_other rfl) (orH_r (canH_other rfl) (orH_r (canH_other rfl) (orH_l rfl)))))))))))))))))))
theorem R3_15 (s : SV) (H : AH) (h0 : lookB H.bs 0 = some (.ints s.g)) (h1 : lookB H.bs 1 = some (.ints s.h)) : inH R3 (.func (.func 15) #[] #[]) [s.val] H = some (.bool s.long, H) := inH_hd (orH_r (canH_other rfl) (orH_r (canH_other rfl) (orH_r (canH_other rfl) (orH_r (canH_other rfl) (orH_r (canH_other rfl) (orH_r (canH_other rfl) (orH_r (canH_other rfl) (orH_r (canH_other rfl) (orH_r (canH_other rfl) (orH_r (canH_other rfl) (orH_r (canH_other rfl) (orH_r (canH_other rfl) (orH_r (canH_other rfl) (orH_r (canH_other rfl) (orH_r (canH_other rfl) (orH_r (canH_other rfl) (orH_r (canH_other rfl) (orH_r (canH_other rfl) (orH_r (canH_other rfl) (orH_r (canH_other rfl) (orH_r (canH_other rfl) (orH_l (canH_set h0 h1)))))))))))))))))))))))
theorem R3_20 (s : SV) (H : AH) (h0 : lookB H.bs 0 = some (.ints s.g)) (h1 : lookB H.bs 1 = some (.ints s.h)) : inH R3 (.func (.func 20) #[] #[]) [s.val] H = some (.int .i64 s.kinds, H) := inH_hd (orH_r (canH_other rfl) (orH_r (canH_other rfl) (orH_r (canH_other rfl) (orH_r (canH_other rfl) (orH_r (canH_other rfl) (orH_r (canH_other rfl) (orH_r (canH_other rfl) (orH_r (canH_other rfl) (orH_r (canH_other rfl) (orH_r (canH_other rfl) (orH_r (canH_other rfl) (orH_r (canH_other rfl) (orH_r (canH_other rfl) (orH_r (canH_other rfl) (orH_r (canH_other rfl) (orH_r (canH_other rfl) (orH_r (canH_other rfl) (orH_r (canH_other rfl) (orH_r (canH_other rfl) (orH_r (canH_other rfl) (orH_l (canH_set h0 h1))))))))))))))))))))))
theorem R3_80 (s : SV) (H : AH) (h0 : lookB H.bs 0 = some (.ints s.g)) (h1 : lookB H.bs 1 = some (.ints s.h)) : inH R3 (.func (.func 80) #[] #[]) [s.val] H = some (.bool s.ok, H) := inH_hd (orH_r (canH_other rfl) (orH_r (canH_other rfl) (orH_r (canH_other rfl) (orH_r (canH_other rfl) (orH_r (canH_other rfl) (orH_r (canH_other rfl) (orH_r (canH_other rfl) (orH_r (canH_other rfl) (orH_r (canH_other rfl) (orH_r (canH_other rfl) (orH_r (canH_other rfl) (orH_r (canH_other rfl) (orH_r (canH_other rfl) (orH_r (canH_other rfl) (orH_r (canH_other rfl) (orH_r (canH_other rfl) (orH_r (canH_other rfl) (orH_r (canH_other rfl) (orH_r (canH_other rfl) (orH_l (canH_set h0 h1)))))))))))))))))))))

end Go.Proofs.Ytkoppbbmdjhaoaa
