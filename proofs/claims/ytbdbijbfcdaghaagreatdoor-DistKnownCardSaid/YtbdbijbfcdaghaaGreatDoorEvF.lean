/-
  What is proved: nothing of the program. This text joins the operations that touch no memory into one function, and says what an operation of the model gives.
-/
import Derived.Test.YtbdbijbfcdaghaaGreatDoorEvE
namespace Go.Proofs.YtbdbijbfcdaghaaGreatDoor
open Go.RowKit

def opdO (g : Operand → Option Value) : Option Operand → Option (Option Value)
  | none => some none
  | some x => (g x).map some

/-- The value operations. -/
def vOp (T : TypeId → Option TI) (g : Operand → Option Value) (op : Op) : Option Value :=
  match op with
  | .move x | .assign x => g x
  | .pick c a b => match g c with
    | some (.bool t) => if t then g a else g b
    | _ => none
  | .build t ps => match partsO g ps.toList with
    | some l => aBuild T t l
    | none => none
  | .nilCheck x => match g x with
    | some (.pointer (some a)) => some (.pointer (some a))
    | _ => none
  | .binOp op t x y _ => match g x, g y with
    | some u, some v => aBin T op t u v
    | _, _ => none
  | .unOp .not _ x => match g x with
    | some (.bool b) => some (.bool (!b))
    | _ => none
  | .unOp .neg _ x => match g x with
    | some (.int k n) => some (.int k (wrapI k (0 - n)))
    | _ => none
  | .convert s d x => match g x, T s, T d with
    | some (.int _ n), some _, some { desc := .int k, .. } => some (.int k (wrapI k n))
    | _, _, _ => none
  | .makeFunc (.func f) first captured => if first.size = 0 then (mapO g captured.toList).map (fun c => .func (.func f) #[] c.toArray) else none
  | .slice t x lo hi none => match g x, opdO g lo, opdO g hi with
    | some u, some l, some h => aSlice T t u l h
    | _, _, _ => none
  | .fieldAddr s x f => match g x with
    | some u => aFieldAddr T s u f
    | none => none
  | .field t x f => match g x with
    | some u => aField T t u f
    | none => none
  | .indexAddr t x i => match g x, g i with
    | some u, some v => aIndexAddr T t u v
    | _, _ => none
  | .index t x i => match g x, g i with
    | some u, some v => aIndex T t u v
    | _, _ => none
  | .extract t i => match g t with
    | some (.tuple vs) => vs[i]?
    | _ => none
  | _ => none

theorem natV_rel {ρ : BMap} {v u : Value} {n : Nat} (h : natV v = some n) (hr : VRel ρ v u) : u = v := by
  obtain ⟨k, rfl⟩ := natV_spec h
  cases hr; rfl

theorem bnd_rel {ρ : BMap} {g : Operand → Option Value} {E : Operand → Value} (hE : ERel ρ g E) {x : Option Operand} {v : Option Value} (hv : opdO g x = some v) {d n : Nat} (h : bnd v d = some n) : x.map E = v := by
  cases x with
  | none => simp only [opdO, Option.some.injEq] at hv; subst hv; rfl
  | some x =>
    simp only [opdO, Option.map_eq_some_iff] at hv
    obtain ⟨u, hu, rfl⟩ := hv
    simp only [Option.map_some, Option.some.injEq]
    exact natV_rel (by simpa [bnd] using h) (hE _ _ hu)

theorem aSlice_bnd {T : TypeId → Option TI} {t : TypeId} {x v : Value} {lo hi : Option Value} (h : aSlice T t x lo hi = some v) : (∃ l, bnd lo 0 = some l) ∧ ∃ d hh, bnd hi d = some hh := by
  unfold aSlice at h
  split at h
  · split at h
    · split at h
      · split at h
        · exact ⟨⟨_, ‹_›⟩, ⟨_, _, ‹_›⟩⟩
        · cases h
      · cases h
    · cases h
  · split at h
    · split at h
      · split at h
        · exact ⟨⟨_, ‹_›⟩, ⟨_, _, ‹_›⟩⟩
        · cases h
      · cases h
    · cases h
  · split at h
    · split at h
      · split at h
        · exact ⟨⟨_, ‹_›⟩, ⟨_, _, ‹_›⟩⟩
        · cases h
      · cases h
    · cases h
  · split at h
    · split at h
      · exact ⟨⟨_, ‹_›⟩, ⟨_, _, ‹_›⟩⟩
      · cases h
    · cases h
  · cases h

theorem aIndexAddr_nat {T : TypeId → Option TI} {t : TypeId} {x ix v : Value} (h : aIndexAddr T t x ix = some v) : ∃ n, natV ix = some n := by
  unfold aIndexAddr at h
  split at h
  · exact ⟨_, ‹_›⟩
  · exact ⟨_, ‹_›⟩
  · cases h

theorem aIndex_nat {T : TypeId → Option TI} {t : TypeId} {x ix v : Value} (h : aIndex T t x ix = some v) : ∃ n, natV ix = some n := by
  unfold aIndex at h
  split at h
  · exact ⟨_, ‹_›⟩
  · exact ⟨_, ‹_›⟩
  · cases h

/-- A value operation of the model gives the value, and leaves the world as it is. -/
theorem vOp_sound {P : Program} {T : TypeId → Option TI} (hT : TOk P T) {g : Operand → Option Value} {o : Oper} {v : Value} (h : vOp T g o.op = some v) {ρ : BMap} {E : Operand → Value} (hE : ERel ρ g E) (w : World) :
    ∃ u, (execOp E o).run P w = .ok (.value u) w ∧ VRel ρ v u := by
  unfold vOp at h
  unfold execOp
  split at h
  · rename_i x e; rw [e]; exact ⟨_, by simp, hE _ _ h⟩
  · rename_i x e; rw [e]; exact ⟨_, by simp, hE _ _ h⟩
  · rename_i c a b e
    rw [e]
    split at h
    · rename_i t hc
      have hcr := hE _ _ hc
      split at h
      · rename_i ht
        subst ht
        generalize hEc : E c = ec at hcr
        cases hcr
        exact ⟨E a, by simp [hEc, asBool], hE _ _ h⟩
      · rename_i ht
        have ht' : t = false := by simpa using ht
        subst ht'
        generalize hEc : E c = ec at hcr
        cases hcr
        exact ⟨E b, by simp [hEc, asBool], hE _ _ h⟩
    · cases h
  · rename_i t ps e
    rw [e]
    split at h
    · rename_i l hl
      have hp := partsO_rel hE _ _ hl
      obtain ⟨u, hu, hv⟩ := aBuild_sound hT h (qs := ps.map fun p => (p.1, E p.2)) (by simpa using hp) w
      refine ⟨u, ?_, hv⟩
      simp only [Sem.run_bind, hu, Result.andThen_ok, Sem.run_pure]
    · cases h
  · rename_i x e
    rw [e]
    split at h
    · rename_i a hx
      cases h
      have hr := hE _ _ hx
      refine ⟨E x, ?_, hr⟩
      generalize hEx : E x = ex at hr
      cases hr <;> simp [hEx]
    · cases h
  · rename_i op t x y yt e
    rw [e]
    split at h
    · rename_i a b ha hb
      obtain ⟨h1, h2⟩ := aBin_sound hT h (hE _ _ ha) (hE _ _ hb) x y w
      exact ⟨v, by simp only [Sem.run_bind] at h1 ⊢; rw [h1]; rfl, h2⟩
    · cases h
  · rename_i t x e
    rw [e]
    split at h
    · rename_i b hx
      cases h
      have hr := hE _ _ hx
      generalize hEx : E x = ex at hr
      cases hr
      exact ⟨.bool (!b), by simp [hEx, Op.unary], .bool _⟩
    · cases h
  · rename_i t x e
    rw [e]
    split at h
    · rename_i k n hx
      cases h
      have hr := hE _ _ hx
      generalize hEx : E x = ex at hr
      cases hr
      exact ⟨_, by simp [hEx, Op.unary, Op.intArith, wrapI_eq], .int _ _⟩
    · cases h
  · rename_i s d x e
    rw [e]
    split at h
    · rename_i kk n i1 _ _ _ k _ hx hs hd
      cases h
      have hr := hE _ _ hx
      generalize hEx : E x = ex at hr
      cases hr
      refine ⟨.int k (wrapI k n), ?_, .int _ _⟩
      simp [hEx, convert, run_underlying (hT.under hs), run_underlying (hT.under hd), Conv.intToInt, wrapI_eq]
    · cases h
  · rename_i f first captured e
    rw [e]
    split at h
    · rename_i h0
      simp only [Option.map_eq_some_iff] at h
      obtain ⟨c, hc, rfl⟩ := h
      obtain ⟨h1, h2⟩ := mapO_spec hc
      have he : first = #[] := Array.eq_empty_of_size_eq_zero h0
      subst he
      refine ⟨.func (.func f) #[] (captured.map E), by simp [Instr.makeFunc], .func (by simpa using h1) fun j a b ha hb => ?_⟩
      have hj : j < captured.size := by
        have := (Array.getElem?_eq_some_iff.1 hb).1
        simpa using this
      obtain ⟨y, hy, hfy⟩ := h2 j captured[j] (by simp [hj])
      have ha' : c[j]? = some a := by simpa using ha
      rw [hy] at ha'; cases ha'
      have hb' : b = E captured[j] := by
        simp [hj] at hb; exact hb.symm
      subst hb'
      exact hE _ _ hfy
    · cases h
  · rename_i t x lo hi e
    rw [e]
    split at h
    · rename_i u l hh hu hl hhh
      obtain ⟨⟨_, hb1⟩, ⟨_, _, hb2⟩⟩ := aSlice_bnd h
      have e1 := bnd_rel hE hl hb1
      have e2 := bnd_rel hE hhh hb2
      obtain ⟨r, hr, hv⟩ := aSlice_sound hT h (hE _ _ hu) w
      refine ⟨r, ?_, hv⟩
      simp only [e1, e2, Option.map_none, Sem.run_bind, hr, Result.andThen_ok, Sem.run_pure]
    · cases h
  · rename_i s x f e
    rw [e]
    split at h
    · rename_i u hu
      obtain ⟨r, hr, hv⟩ := aFieldAddr_sound hT h (hE _ _ hu) w
      exact ⟨r, by simp only [Sem.run_bind, hr, Result.andThen_ok, Sem.run_pure], hv⟩
    · cases h
  · rename_i s x f e
    rw [e]
    split at h
    · rename_i u hu
      obtain ⟨r, hr, hv⟩ := aField_sound hT h (hE _ _ hu) w
      exact ⟨r, by simp only [Sem.run_bind, hr, Result.andThen_ok, Sem.run_pure], hv⟩
    · cases h
  · rename_i t x i e
    rw [e]
    split at h
    · rename_i u n hu hn
      obtain ⟨_, hnat⟩ := aIndexAddr_nat h
      have hi := natV_rel hnat (hE _ _ hn)
      obtain ⟨r, hr, hv⟩ := aIndexAddr_sound hT h (hE _ _ hu) w
      exact ⟨r, by simp only [hi, Sem.run_bind, hr, Result.andThen_ok, Sem.run_pure], hv⟩
    · cases h
  · rename_i t x i e
    rw [e]
    split at h
    · rename_i u n hu hn
      obtain ⟨_, hnat⟩ := aIndex_nat h
      have hi := natV_rel hnat (hE _ _ hn)
      obtain ⟨r, hr, hv⟩ := aIndex_sound hT h (hE _ _ hu) w
      exact ⟨r, by simp only [hi, Sem.run_bind, hr, Result.andThen_ok, Sem.run_pure], hv⟩
    · cases h
  · rename_i t i e
    rw [e]
    split at h
    · rename_i vs hx
      have hr := hE _ _ hx
      generalize hEx : E t = ex at hr
      cases hr with
      | tuple hs hr =>
        rename_i c'
        obtain ⟨u, hu, hv⟩ := (ARel.get (ρ := ρ) (c := vs) (c' := c') ⟨hs, hr⟩ h)
        exact ⟨u, by simp [hEx, Instr.extract, hu], hv⟩
    · cases h
  · cases h

end Go.Proofs.YtbdbijbfcdaghaaGreatDoor
