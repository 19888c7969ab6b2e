/-
  What is proved: Contains, Has, Size, Kinds, face, Kind and Red of TileBags' seat, as answers that calls may take.
-/
import Derived.Test.YtbpknklnalnihaaTf
import Derived.Test.YtbpknklnalnihaaTg
namespace Go.Proofs.Ytbpknklnalnihaa
open Go.RowKit
set_option linter.unusedSimpArgs false
set_option linter.unusedVariables false

/-! ### Whether a list has a number -/
noncomputable def ansIx : List Value → AH → Option Value
  | [.slice (some ⟨0, 0, some 1⟩) n 0, .int .i64 x], ⟨1, [(0, .ints g)]⟩ => some (.int .i64 (idxOfG g x n 0))
  | _, _ => none
noncomputable def ansHas : List Value → AH → Option Value
  | [.slice (some ⟨0, 0, some 1⟩) n 0, .int .i64 x], ⟨1, [(0, .ints g)]⟩ => some (.bool (hasG g n x))
  | _, _ => none

theorem ok119 : AnsOK (runH noH) 48 ansIx := by
  intro cargs Hc v h
  unfold ansIx at h
  split at h
  · rename_i n x g
    cases h
    refine ⟨rfl, fun hr => ?_⟩
    obtain ⟨H', h⟩ := index_ev (inH noH) g n x (hr.len (j := 0) (i := 0) (g := g) rfl rfl)
    exact ⟨H', runH_fn F119 rfl h⟩
  · cases h
theorem ok86 : AnsOK (runH noH) 35 ansHas := by
  intro cargs Hc v h
  unfold ansHas at h
  split at h
  · rename_i n x g
    cases h
    refine ⟨rfl, fun hr => ?_⟩
    obtain ⟨H', h⟩ := has_ev (inH noH) g n x (hr.len (j := 0) (i := 0) (g := g) rfl rfl)
    exact ⟨H', runH_fn F86 rfl h⟩
  · cases h
theorem canH_lst {f : FuncId} {ans : List Value → AH → Option Value} {i n : Nat} {g : Nat → Int} {x : Int} {H : AH} (h : lookB H.bs i = some (.ints g)) :
    canH f ans (.func (.func f) #[] #[]) [.slice (some ⟨i, 0, some 1⟩) n 0, .int .i64 x] H = (ans [sl1 n, .int .i64 x] (hp1 g)).map (·, H) := by
  simp [canH, canon, canonL, canonV, idOf, idxOf, canonB, h, sl1, hp1]
  generalize ans _ _ = x
  cases x <;> rfl

noncomputable def G0 : Hnd := canH 48 ansIx
theorem G0_ok : CallOK Try.prog G0 := canH_ok (runH_ok noH_ok) ok119
theorem ok110 : AnsOK (runH G0) 32 ansHas := by
  intro cargs Hc v h
  unfold ansHas at h
  split at h
  · rename_i n x g
    cases h
    refine ⟨rfl, fun _ => ?_⟩
    obtain ⟨H', h⟩ := contains_ev (inH G0) (fun g n x H h => inH_hd (by unfold G0 sl1; rw [canH_lst h]; rfl)) g n x
    exact ⟨H', runH_fn F110 rfl h⟩
  · cases h

theorem canH_si {f : FuncId} {ans : List Value → AH → Option Value} {s : SV} {k : Int} {H : AH} (h0 : lookB H.bs 0 = some (.ints s.g)) (h1 : lookB H.bs 1 = some (.ints s.h)) :
    canH f ans (.func (.func f) #[] #[]) [s.val, .int .i64 k] H = (ans [s.val, .int .i64 k] s.hp).map (·, H) := by
  simp [canH, canon, canonL, canonV, idOf, idxOf, SV.val, canonB, h0, h1, SV.hp]
  generalize ans _ _ = x
  cases x <;> rfl

/-! ### Answers that hang on a set and a number -/
noncomputable def ansSK (a : SV → Int → Option Value) : List Value → AH → Option Value
  | [v, .int .i64 k], H => match seeSet v H with
    | some s => a s k
    | none => none
  | _, _ => none
theorem ansSK_ok {call0 : Hnd} {f : FuncId} {a : SV → Int → Option Value} (h : ∀ s k v, a s k = some v → closedV 5 v = true ∧ ∃ H', call0 (.func (.func f) #[] #[]) [s.val, .int .i64 k] s.hp = some (v, H')) : AnsOK call0 f (ansSK a) := by
  intro cargs Hc v hv
  unfold ansSK at hv
  split at hv
  · split at hv
    · rename_i s hs
      obtain ⟨rfl, rfl⟩ := seeSet_spec hs
      exact ⟨(h _ _ _ hv).1, fun _ => (h _ _ _ hv).2⟩
    · cases hv
  · cases hv
theorem canH_sk {f : FuncId} {a : SV → Int → Option Value} {s : SV} {k : Int} {H : AH} (h0 : lookB H.bs 0 = some (.ints s.g)) (h1 : lookB H.bs 1 = some (.ints s.h)) : canH f (ansSK a) (.func (.func f) #[] #[]) [s.val, .int .i64 k] H = (a s k).map (·, H) := by
  rw [canH_si h0 h1]
  rfl


noncomputable def aRsize (s : SV) : Option Value := some (.int .i64 s.rsize)
noncomputable def aKinds (s : SV) : Option Value := some (.int .i64 s.kinds)
theorem ok22 : AnsOK (runH L4) 36 (ans1 aRsize) := ans1_ok fun s v h => by
  cases h
  refine ⟨rfl, fun _ _ => ?_⟩
  obtain ⟨H', h⟩ := rsize_ev (inH L4) L4_18 L4_79 s
  exact ⟨H', runH_fn F22 rfl h⟩
theorem ok20 : AnsOK (runH L4) 17 (ans1 aKinds) := ans1_ok fun s v h => by
  cases h
  refine ⟨rfl, fun _ _ => ?_⟩
  obtain ⟨H', h⟩ := rkinds_ev (inH L4) L4_18 L4_79 s
  exact ⟨H', runH_fn F20 rfl h⟩
noncomputable def R0 : Hnd := orH (canH 32 ansHas) (orH (canH 35 ansHas) (orH (canH 36 (ans1 aRsize)) (orH (canH 17 (ans1 aKinds)) L4)))
theorem R0_ok : CallOK Try.prog R0 :=
  orH_ok (canH_ok (runH_ok G0_ok) ok110) (orH_ok (canH_ok (runH_ok noH_ok) ok86) (orH_ok (canH_ok (runH_ok L4_ok) ok22) (orH_ok (canH_ok (runH_ok L4_ok) ok20) L4_ok)))
theorem R0_has (i n : Nat) (g : Nat → Int) (x : Int) (H : AH) (h : lookB H.bs i = some (.ints g)) : R0 (.func (.func 32) #[] #[]) [.slice (some ⟨i, 0, some 1⟩) n 0, .int .i64 x] H = some (.bool (hasG g n x), H) := orH_l (by rw [canH_lst h]; rfl)
theorem R0_rhas (i n : Nat) (g : Nat → Int) (x : Int) (H : AH) (h : lookB H.bs i = some (.ints g)) : R0 (.func (.func 35) #[] #[]) [.slice (some ⟨i, 0, some 1⟩) n 0, .int .i64 x] H = some (.bool (hasG g n x), H) := orH_r (canH_other rfl) (orH_l (by rw [canH_lst h]; rfl))
theorem R0_rsize (s : SV) (H : AH) (h0 : lookB H.bs 0 = some (.ints s.g)) (h1 : lookB H.bs 1 = some (.ints s.h)) : R0 (.func (.func 36) #[] #[]) [s.val] H = some (.int .i64 s.rsize, H) := orH_r (canH_other rfl) (orH_r (canH_other rfl) (orH_l (canH_set h0 h1)))
theorem R0_rkinds (s : SV) (H : AH) (h0 : lookB H.bs 0 = some (.ints s.g)) (h1 : lookB H.bs 1 = some (.ints s.h)) : R0 (.func (.func 17) #[] #[]) [s.val] H = some (.int .i64 s.kinds, H) := orH_r (canH_other rfl) (orH_r (canH_other rfl) (orH_r (canH_other rfl) (orH_l (canH_set h0 h1))))
theorem R0_check (s : SV) (H : AH) (h0 : lookB H.bs 0 = some (.ints s.g)) (h1 : lookB H.bs 1 = some (.ints s.h)) : R0 (.func (.func 29) #[] #[]) [s.val] H = some (.int .i64 s.err, H) := orH_r (canH_other rfl) (orH_r (canH_other rfl) (orH_r (canH_other rfl) (orH_r (canH_other rfl) (orH_l (canH_set h0 h1)))))
theorem R0_rcheck (s : SV) (H : AH) (h0 : lookB H.bs 0 = some (.ints s.g)) (h1 : lookB H.bs 1 = some (.ints s.h)) : R0 (.func (.func 15) #[] #[]) [s.val] H = some (.int .i64 s.err, H) := orH_r (canH_other rfl) (orH_r (canH_other rfl) (orH_r (canH_other rfl) (orH_r (canH_other rfl) (orH_r (canH_other rfl) (orH_l (canH_set h0 h1))))))
theorem R0_plain (s : SV) (H : AH) (h0 : lookB H.bs 0 = some (.ints s.g)) (h1 : lookB H.bs 1 = some (.ints s.h)) : R0 (.func (.func 13) #[] #[]) [s.val] H = some (.int .i64 s.plain, H) := orH_r (canH_other rfl) (orH_r (canH_other rfl) (orH_r (canH_other rfl) (orH_r (canH_other rfl) (orH_r (canH_other rfl) (orH_r (canH_other rfl) (orH_l (orH_l (orH_l (L0_75 s H h0 h1)))))))))
theorem R0_rplain (s : SV) (H : AH) (h0 : lookB H.bs 0 = some (.ints s.g)) (h1 : lookB H.bs 1 = some (.ints s.h)) : R0 (.func (.func 34) #[] #[]) [s.val] H = some (.int .i64 s.plain, H) := orH_r (canH_other rfl) (orH_r (canH_other rfl) (orH_r (canH_other rfl) (orH_r (canH_other rfl) (orH_r (canH_other rfl) (orH_r (canH_other rfl) (orH_l (orH_l (orH_l (L0_79 s H h0 h1)))))))))
theorem R0_size (s : SV) (H : AH) (h0 : lookB H.bs 0 = some (.ints s.g)) (h1 : lookB H.bs 1 = some (.ints s.h)) : R0 (.func (.func 31) #[] #[]) [s.val] H = some (.int .i64 s.size, H) := orH_r (canH_other rfl) (orH_r (canH_other rfl) (orH_r (canH_other rfl) (orH_r (canH_other rfl) (orH_r (canH_other rfl) (orH_r (canH_other rfl) (orH_l (orH_l (orH_r rfl (orH_r (canH_other rfl) (orH_r (canH_other rfl) (canH_set h0 h1)))))))))))
theorem R0_btw (n l m : Int) (H : AH) : R0 (.func (.func 30) #[] #[]) [.int .i64 n, .int .i64 l, .int .i64 m] H = some (.bool (btw n l m), H) := orH_r (canH_other rfl) (orH_r (canH_other rfl) (orH_r (canH_other rfl) (orH_r (canH_other rfl) (orH_r (canH_other rfl) (orH_r (canH_other rfl) (rfl))))))
theorem R0_rbtw (n l m : Int) (H : AH) : R0 (.func (.func 33) #[] #[]) [.int .i64 n, .int .i64 l, .int .i64 m] H = some (.bool (btw n l m), H) := orH_r (canH_other rfl) (orH_r (canH_other rfl) (orH_r (canH_other rfl) (orH_r (canH_other rfl) (orH_r (canH_other rfl) (orH_r (canH_other rfl) (rfl))))))

noncomputable def aFace (s : SV) (t : Int) : Option Value := if s.inB t = true then some (faceV (s.faceK t) (s.faceR t)) else none
theorem ok85 : AnsOK (runH R0) 14 (ansSK aFace) := ansSK_ok fun s t v h => by
  unfold aFace at h
  split at h
  · rename_i hb
    cases h
    obtain ⟨_, hT⟩ := tile_of hb
    obtain ⟨H', h⟩ := face_ev (inH R0) s t (fun H h0 h1 => inH_hd (R0_plain s H h0 h1)) (fun i n g x H h => inH_hd (R0_has i n g x H h)) hT
    exact ⟨rfl, H', runH_fn F85 rfl h⟩
  · cases h
noncomputable def aKindOf (s : SV) (t : Int) : Option Value := some (.int .i64 (s.kindOf t))
noncomputable def aRedOf (s : SV) (t : Int) : Option Value := some (.bool (s.redOf t))
theorem ok29 : AnsOK (runH R0) 18 (ansSK aKindOf) := ansSK_ok fun s t v h => by
  cases h
  obtain ⟨H', h⟩ := rkind_ev (inH R0) s t (fun H h0 h1 => inH_hd (R0_rsize s H h0 h1)) (fun H h0 h1 => inH_hd (R0_rplain s H h0 h1))
  exact ⟨rfl, H', runH_fn F29 rfl h⟩
noncomputable def R1 : Hnd := orH (canH 14 (ansSK aFace)) (orH (canH 18 (ansSK aKindOf)) R0)
theorem R1_ok : CallOK Try.prog R1 := orH_ok (canH_ok (runH_ok R0_ok) ok85) (orH_ok (canH_ok (runH_ok R0_ok) ok29) R0_ok)
theorem R1_has (i n : Nat) (g : Nat → Int) (x : Int) (H : AH) (h : lookB H.bs i = some (.ints g)) : R1 (.func (.func 32) #[] #[]) [.slice (some ⟨i, 0, some 1⟩) n 0, .int .i64 x] H = some (.bool (hasG g n x), H) := orH_r (canH_other rfl) (orH_r (canH_other rfl) (orH_l (by rw [canH_lst h]; rfl)))
theorem R1_rhas (i n : Nat) (g : Nat → Int) (x : Int) (H : AH) (h : lookB H.bs i = some (.ints g)) : R1 (.func (.func 35) #[] #[]) [.slice (some ⟨i, 0, some 1⟩) n 0, .int .i64 x] H = some (.bool (hasG g n x), H) := orH_r (canH_other rfl) (orH_r (canH_other rfl) (orH_r (canH_other rfl) (orH_l (by rw [canH_lst h]; rfl))))
theorem R1_rsize (s : SV) (H : AH) (h0 : lookB H.bs 0 = some (.ints s.g)) (h1 : lookB H.bs 1 = some (.ints s.h)) : R1 (.func (.func 36) #[] #[]) [s.val] H = some (.int .i64 s.rsize, H) := orH_r (canH_other rfl) (orH_r (canH_other rfl) (orH_r (canH_other rfl) (orH_r (canH_other rfl) (orH_l (canH_set h0 h1)))))
theorem R1_rkinds (s : SV) (H : AH) (h0 : lookB H.bs 0 = some (.ints s.g)) (h1 : lookB H.bs 1 = some (.ints s.h)) : R1 (.func (.func 17) #[] #[]) [s.val] H = some (.int .i64 s.kinds, H) := orH_r (canH_other rfl) (orH_r (canH_other rfl) (orH_r (canH_other rfl) (orH_r (canH_other rfl) (orH_r (canH_other rfl) (orH_l (canH_set h0 h1))))))
theorem R1_check (s : SV) (H : AH) (h0 : lookB H.bs 0 = some (.ints s.g)) (h1 : lookB H.bs 1 = some (.ints s.h)) : R1 (.func (.func 29) #[] #[]) [s.val] H = some (.int .i64 s.err, H) := orH_r (canH_other rfl) (orH_r (canH_other rfl) (orH_r (canH_other rfl) (orH_r (canH_other rfl) (orH_r (canH_other rfl) (orH_r (canH_other rfl) (orH_l (canH_set h0 h1)))))))
theorem R1_rcheck (s : SV) (H : AH) (h0 : lookB H.bs 0 = some (.ints s.g)) (h1 : lookB H.bs 1 = some (.ints s.h)) : R1 (.func (.func 15) #[] #[]) [s.val] H = some (.int .i64 s.err, H) := orH_r (canH_other rfl) (orH_r (canH_other rfl) (orH_r (canH_other rfl) (orH_r (canH_other rfl) (orH_r (canH_other rfl) (orH_r (canH_other rfl) (orH_r (canH_other rfl) (orH_l (canH_set h0 h1))))))))
theorem R1_plain (s : SV) (H : AH) (h0 : lookB H.bs 0 = some (.ints s.g)) (h1 : lookB H.bs 1 = some (.ints s.h)) : R1 (.func (.func 13) #[] #[]) [s.val] H = some (.int .i64 s.plain, H) := orH_r (canH_other rfl) (orH_r (canH_other rfl) (orH_r (canH_other rfl) (orH_r (canH_other rfl) (orH_r (canH_other rfl) (orH_r (canH_other rfl) (orH_r (canH_other rfl) (orH_r (canH_other rfl) (orH_l (orH_l (orH_l (L0_75 s H h0 h1)))))))))))
theorem R1_rplain (s : SV) (H : AH) (h0 : lookB H.bs 0 = some (.ints s.g)) (h1 : lookB H.bs 1 = some (.ints s.h)) : R1 (.func (.func 34) #[] #[]) [s.val] H = some (.int .i64 s.plain, H) := orH_r (canH_other rfl) (orH_r (canH_other rfl) (orH_r (canH_other rfl) (orH_r (canH_other rfl) (orH_r (canH_other rfl) (orH_r (canH_other rfl) (orH_r (canH_other rfl) (orH_r (canH_other rfl) (orH_l (orH_l (orH_l (L0_79 s H h0 h1)))))))))))
theorem R1_size (s : SV) (H : AH) (h0 : lookB H.bs 0 = some (.ints s.g)) (h1 : lookB H.bs 1 = some (.ints s.h)) : R1 (.func (.func 31) #[] #[]) [s.val] H = some (.int .i64 s.size, H) := orH_r (canH_other rfl) (orH_r (canH_other rfl) (orH_r (canH_other rfl) (orH_r (canH_other rfl) (orH_r (canH_other rfl) (orH_r (canH_other rfl) (orH_r (canH_other rfl) (orH_r (canH_other rfl) (orH_l (orH_l (orH_r rfl (orH_r (canH_other rfl) (orH_r (canH_other rfl) (canH_set h0 h1)))))))))))))
theorem R1_btw (n l m : Int) (H : AH) : R1 (.func (.func 30) #[] #[]) [.int .i64 n, .int .i64 l, .int .i64 m] H = some (.bool (btw n l m), H) := orH_r (canH_other rfl) (orH_r (canH_other rfl) (orH_r (canH_other rfl) (orH_r (canH_other rfl) (orH_r (canH_other rfl) (orH_r (canH_other rfl) (orH_r (canH_other rfl) (orH_r (canH_other rfl) (rfl))))))))
theorem R1_rbtw (n l m : Int) (H : AH) : R1 (.func (.func 33) #[] #[]) [.int .i64 n, .int .i64 l, .int .i64 m] H = some (.bool (btw n l m), H) := orH_r (canH_other rfl) (orH_r (canH_other rfl) (orH_r (canH_other rfl) (orH_r (canH_other rfl) (orH_r (canH_other rfl) (orH_r (canH_other rfl) (orH_r (canH_other rfl) (orH_r (canH_other rfl) (rfl))))))))
theorem R1_face (s : SV) (t : Int) (H : AH) (hb : s.inB t = true) (h0 : lookB H.bs 0 = some (.ints s.g)) (h1 : lookB H.bs 1 = some (.ints s.h)) : R1 (.func (.func 14) #[] #[]) [s.val, .int .i64 t] H = some (faceV (s.faceK t) (s.faceR t), H) := orH_l (by rw [canH_sk h0 h1, aFace, if_pos hb]; rfl)
theorem R1_kind (s : SV) (t : Int) (H : AH) (h0 : lookB H.bs 0 = some (.ints s.g)) (h1 : lookB H.bs 1 = some (.ints s.h)) : R1 (.func (.func 18) #[] #[]) [s.val, .int .i64 t] H = some (.int .i64 (s.kindOf t), H) := orH_r (canH_other rfl) (orH_l (by rw [canH_sk h0 h1]; rfl))

theorem ok31 : AnsOK (runH R1) 19 (ansSK aRedOf) := ansSK_ok fun s t v h => by
  cases h
  obtain ⟨H', h⟩ := rred_ev (inH R1) s t (fun H h0 h1 => inH_hd (R1_kind s t H h0 h1)) (fun H h0 h1 => inH_hd (R1_rplain s H h0 h1)) (fun i n g x H h => inH_hd (R1_rhas i n g x H h))
  exact ⟨rfl, H', runH_fn F31 rfl h⟩
noncomputable def R2 : Hnd := orH (canH 19 (ansSK aRedOf)) R1
theorem R2_ok : CallOK Try.prog R2 := orH_ok (canH_ok (runH_ok R1_ok) ok31) R1_ok
theorem R2_has (i n : Nat) (g : Nat → Int) (x : Int) (H : AH) (h : lookB H.bs i = some (.ints g)) : R2 (.func (.func 32) #[] #[]) [.slice (some ⟨i, 0, some 1⟩) n 0, .int .i64 x] H = some (.bool (hasG g n x), H) := orH_r (canH_other rfl) (orH_r (canH_other rfl) (orH_r (canH_other rfl) (orH_l (by rw [canH_lst h]; rfl))))
theorem R2_rhas (i n : Nat) (g : Nat → Int) (x : Int) (H : AH) (h : lookB H.bs i = some (.ints g)) : R2 (.func (.func 35) #[] #[]) [.slice (some ⟨i, 0, some 1⟩) n 0, .int .i64 x] H = some (.bool (hasG g n x), H) := orH_r (canH_other rfl) (orH_r (canH_other rfl) (orH_r (canH_other rfl) (orH_r (canH_other rfl) (orH_l (by rw [canH_lst h]; rfl)))))
theorem R2_rsize (s : SV) (H : AH) (h0 : lookB H.bs 0 = some (.ints s.g)) (h1 : lookB H.bs 1 = some (.ints s.h)) : R2 (.func (.func 36) #[] #[]) [s.val] H = some (.int .i64 s.rsize, H) := orH_r (canH_other rfl) (orH_r (canH_other rfl) (orH_r (canH_other rfl) (orH_r (canH_other rfl) (orH_r (canH_other rfl) (orH_l (canH_set h0 h1))))))
theorem R2_rkinds (s : SV) (H : AH) (h0 : lookB H.bs 0 = some (.ints s.g)) (h1 : lookB H.bs 1 = some (.ints s.h)) : R2 (.func (.func 17) #[] #[]) [s.val] H = some (.int .i64 s.kinds, H) := orH_r (canH_other rfl) (orH_r (canH_other rfl) (orH_r (canH_other rfl) (orH_r (canH_other rfl) (orH_r (canH_other rfl) (orH_r (canH_other rfl) (orH_l (canH_set h0 h1)))))))
theorem R2_check (s : SV) (H : AH) (h0 : lookB H.bs 0 = some (.ints s.g)) (h1 : lookB H.bs 1 = some (.ints s.h)) : R2 (.func (.func 29) #[] #[]) [s.val] H = some (.int .i64 s.err, H) := orH_r (canH_other rfl) (orH_r (canH_other rfl) (orH_r (canH_other rfl) (orH_r (canH_other rfl) (orH_r (canH_other rfl) (orH_r (canH_other rfl) (orH_r (canH_other rfl) (orH_l (canH_set h0 h1))))))))
theorem R2_rcheck (s : SV) (H : AH) (h0 : lookB H.bs 0 = some (.ints s.g)) (h1 : lookB H.bs 1 = some (.ints s.h)) : R2 (.func (.func 15) #[] #[]) [s.val] H = some (.int .i64 s.err, H) := orH_r (canH_other rfl) (orH_r (canH_other rfl) (orH_r (canH_other rfl) (orH_r (canH_other rfl) (orH_r (canH_other rfl) (orH_r (canH_other rfl) (orH_r (canH_other rfl) (orH_r (canH_other rfl) (orH_l (canH_set h0 h1)))))))))
theorem R2_plain (s : SV) (H : AH) (h0 : lookB H.bs 0 = some (.ints s.g)) (h1 : lookB H.bs 1 = some (.ints s.h)) : R2 (.func (.func 13) #[] #[]) [s.val] H = some (.int .i64 s.plain, H) := orH_r (canH_other rfl) (orH_r (canH_other rfl) (orH_r (canH_other rfl) (orH_r (canH_other rfl) (orH_r (canH_other rfl) (orH_r (canH_other rfl) (orH_r (canH_other rfl) (orH_r (canH_other rfl) (orH_r (canH_other rfl) (orH_l (orH_l (orH_l (L0_75 s H h0 h1))))))))))))
theorem R2_rplain (s : SV) (H : AH) (h0 : lookB H.bs 0 = some (.ints s.g)) (h1 : lookB H.bs 1 = some (.ints s.h)) : R2 (.func (.func 34) #[] #[]) [s.val] H = some (.int .i64 s.plain, H) := orH_r (canH_other rfl) (orH_r (canH_other rfl) (orH_r (canH_other rfl) (orH_r (canH_other rfl) (orH_r (canH_other rfl) (orH_r (canH_other rfl) (orH_r (canH_other rfl) (orH_r (canH_other rfl) (orH_r (canH_other rfl) (orH_l (orH_l (orH_l (L0_79 s H h0 h1))))))))))))
theorem R2_size (s : SV) (H : AH) (h0 : lookB H.bs 0 = some (.ints s.g)) (h1 : lookB H.bs 1 = some (.ints s.h)) : R2 (.func (.func 31) #[] #[]) [s.val] H = some (.int .i64 s.size, H) := orH_r (canH_other rfl) (orH_r (canH_other rfl) (orH_r (canH_other rfl) (orH_r (canH_other rfl) (orH_r (canH_other rfl) (orH_r (canH_other rfl) (orH_r (canH_other rfl) (orH_r (canH_other rfl) (orH_r (canH_other rfl) (orH_l (orH_l (orH_r rfl (orH_r (canH_other rfl) (orH_r (canH_other rfl) (canH_set h0 h1))))))))))))))
theorem R2_btw (n l m : Int) (H : AH) : R2 (.func (.func 30) #[] #[]) [.int .i64 n, .int .i64 l, .int .i64 m] H = some (.bool (btw n l m), H) := orH_r (canH_other rfl) (orH_r (canH_other rfl) (orH_r (canH_other rfl) (orH_r (canH_other rfl) (orH_r (canH_other rfl) (orH_r (canH_other rfl) (orH_r (canH_other rfl) (orH_r (canH_other rfl) (orH_r (canH_other rfl) (rfl)))))))))
theorem R2_rbtw (n l m : Int) (H : AH) : R2 (.func (.func 33) #[] #[]) [.int .i64 n, .int .i64 l, .int .i64 m] H = some (.bool (btw n l m), H) := orH_r (canH_other rfl) (orH_r (canH_other rfl) (orH_r (canH_other rfl) (orH_r (canH_other rfl) (orH_r (canH_other rfl) (orH_r (canH_other rfl) (orH_r (canH_other rfl) (orH_r (canH_other rfl) (orH_r (canH_other rfl) (rfl)))))))))
theorem R2_face (s : SV) (t : Int) (H : AH) (hb : s.inB t = true) (h0 : lookB H.bs 0 = some (.ints s.g)) (h1 : lookB H.bs 1 = some (.ints s.h)) : R2 (.func (.func 14) #[] #[]) [s.val, .int .i64 t] H = some (faceV (s.faceK t) (s.faceR t), H) := orH_r (canH_other rfl) (orH_l (by rw [canH_sk h0 h1, aFace, if_pos hb]; rfl))
theorem R2_kind (s : SV) (t : Int) (H : AH) (h0 : lookB H.bs 0 = some (.ints s.g)) (h1 : lookB H.bs 1 = some (.ints s.h)) : R2 (.func (.func 18) #[] #[]) [s.val, .int .i64 t] H = some (.int .i64 (s.kindOf t), H) := orH_r (canH_other rfl) (orH_r (canH_other rfl) (orH_l (by rw [canH_sk h0 h1]; rfl)))
theorem R2_red (s : SV) (t : Int) (H : AH) (h0 : lookB H.bs 0 = some (.ints s.g)) (h1 : lookB H.bs 1 = some (.ints s.h)) : R2 (.func (.func 19) #[] #[]) [s.val, .int .i64 t] H = some (.bool (s.redOf t), H) := orH_l (by rw [canH_sk h0 h1]; rfl)

end Go.Proofs.Ytbpknklnalnihaa
