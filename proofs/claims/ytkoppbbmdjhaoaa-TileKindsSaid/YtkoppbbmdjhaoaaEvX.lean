/-
  What is proved: nothing of the program. This text holds answers that are told by a function of the arguments (over a small memory of their own), and sets of tiles with lists of any length as arguments.
-/
import Derived.Test.YtkoppbbmdjhaoaaEvR
import Derived.Test.YtkoppbbmdjhaoaaEvS
namespace Go.Proofs.Ytkoppbbmdjhaoaa
open Go.RowKit

def canH (f : FuncId) (ans : List Value → AH → Option Value) : Value → List Value → AH → Option (Value × AH) := fun fv args H =>
  match fv with
  | .func (.func f') ⟨[]⟩ ⟨[]⟩ =>
    if Nat.beq f' f then
      match canon args H with
      | some (cargs, Hc) => match ans cargs Hc with
        | some v => some (v, H)
        | none => none
      | none => none
    else none
  | _ => none

def AnsOK (call0 : Value → List Value → AH → Option (Value × AH)) (f : FuncId) (ans : List Value → AH → Option Value) : Prop :=
  ∀ cargs Hc v, ans cargs Hc = some v → closedV 5 v = true ∧ (Real cargs Hc → ∃ H', call0 (.func (.func f) #[] #[]) cargs Hc = some (v, H'))

theorem canH_ok {P : Program} {call0 : Value → List Value → AH → Option (Value × AH)} (hC : CallOK P call0) {f : FuncId} {ans : List Value → AH → Option Value} (ha : AnsOK call0 f ans) : CallOK P (canH f ans) := by
  intro fv args H v H' h
  unfold canH at h
  split at h
  · rename_i f'
    split at h
    · rename_i hf
      split at h
      · rename_i cargs Hc hcan
        split at h
        · rename_i v' he
          cases h
          have hff : f' = f := Nat.eq_of_beq_eq_true hf
          subst hff
          obtain ⟨hv, hcall⟩ := ha _ _ _ he
          refine ⟨Nat.le_refl _, fun B ρ w fv' args' hfv hargs hH _ => ?_⟩
          obtain ⟨n, fr, g1, g2, g3⟩ := transfer hC hcan hcall hv hargs hH
          cases hfv with
          | func hs _ =>
            have hc' := Array.eq_empty_of_size_eq_zero hs.symm
            subst hc'
            refine ⟨.func f', #[], n, fr, rfl, g1, g2, fun c cs => ?_⟩
            obtain ⟨w', st, hvv, hH', hb⟩ := g3 c cs
            exact ⟨ρ, w', v, st, hvv, Ext.refl ρ, fun _ _ => rfl, hH', hb.mono hH.hB⟩
        · cases h
      · cases h
    · cases h
  · cases h

/-- A set of tiles: seven numbers, and two lists by their lengths and places. -/
structure SV where
  p : Int
  n : Nat
  g : Nat → Int
  w : Int
  d : Int
  f : Int
  c : Int
  m : Int
  de : Int
  k : Nat
  h : Nat → Int

def SV.val (s : SV) : Value := .agg ⟨[.int .i64 s.p, .slice (some ⟨0, 0, some 1⟩) s.n 0, .int .i64 s.w, .int .i64 s.d, .int .i64 s.f, .int .i64 s.c, .int .i64 s.m, .int .i64 s.de, .slice (some ⟨1, 0, some 1⟩) s.k 0]⟩

def SV.hp (s : SV) : AH := ⟨2, [(1, .ints s.h), (0, .ints s.g)]⟩

def seeSet : Value → AH → Option SV
  | .agg ⟨[.int .i64 p, .slice (some ⟨0, 0, some 1⟩) n 0, .int .i64 w, .int .i64 d, .int .i64 f, .int .i64 c, .int .i64 m, .int .i64 de, .slice (some ⟨1, 0, some 1⟩) k 0]⟩, ⟨2, [(1, .ints h), (0, .ints g)]⟩ =>
    some ⟨p, n, g, w, d, f, c, m, de, k, h⟩
  | _, _ => none

theorem seeSet_spec {v : Value} {H : AH} {s : SV} (h : seeSet v H = some s) : v = s.val ∧ H = s.hp := by
  unfold seeSet at h
  split at h
  · cases h; exact ⟨rfl, rfl⟩
  · cases h

/-- Answers that hang on a set alone. -/
def ans1 (a : SV → Option Value) : List Value → AH → Option Value
  | [v], H => match seeSet v H with
    | some s => a s
    | none => none
  | _, _ => none

theorem ans1_ok {call0 : Value → List Value → AH → Option (Value × AH)} {f : FuncId} {a : SV → Option Value}
    (h : ∀ s v, a s = some v → closedV 5 v = true ∧ (s.n ≤ 200 → s.k ≤ 200 → ∃ H', call0 (.func (.func f) #[] #[]) [s.val] s.hp = some (v, H'))) : AnsOK call0 f (ans1 a) := by
  intro cargs Hc v hv
  unfold ans1 at hv
  split at hv
  · split at hv
    · rename_i s hs
      obtain ⟨rfl, rfl⟩ := seeSet_spec hs
      refine ⟨(h s v hv).1, fun hr => (h s v hv).2 ?_ ?_⟩
      · exact hr.lenIn (j := 0) (q := 1) (i := 0) (g := s.g) rfl rfl rfl
      · exact hr.lenIn (j := 0) (q := 8) (i := 1) (g := s.h) rfl rfl rfl
    · cases hv
  · cases hv

def sumG (g : Nat → Int) : Nat → Nat → Int → Int
  | 0, _, a => a
  | m + 1, i, a => sumG g m (i + 1) (wrapI .i64 (a + g i))

def SV.plain (s : SV) : Int := sumG s.g s.n 0 (wrapI .i64 (s.w + s.d))

end Go.Proofs.Ytkoppbbmdjhaoaa
