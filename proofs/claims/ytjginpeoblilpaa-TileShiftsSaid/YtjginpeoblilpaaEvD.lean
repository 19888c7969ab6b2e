/-
  What is proved: nothing of the program. This text holds the other operations that touch no memory.
-/
import Derived.Test.YtjginpeoblilpaaEvC
namespace Go.Proofs.Ytjginpeoblilpaa
open Go.RowKit
set_option linter.unusedSimpArgs false
set_option linter.unusedVariables false

noncomputable def mapO {α β : Type} (f : α → Option β) : List α → Option (List β)
  | [] => some []
  | a :: r => match f a, mapO f r with
    | some b, some s => some (b :: s)
    | _, _ => none

theorem mapO_spec {α β : Type} {f : α → Option β} : ∀ {l : List α} {s : List β}, mapO f l = some s → s.length = l.length ∧ ∀ (j : Nat) (a : α), l[j]? = some a → ∃ b, s[j]? = some b ∧ f a = some b
  | [], s, h => by simp only [mapO, Option.some.injEq] at h; subst h; exact ⟨rfl, fun j a h => by simp at h⟩
  | a :: r, s, h => by
    simp only [mapO] at h
    split at h
    · rename_i b s' hb hs
      cases h
      obtain ⟨h1, h2⟩ := mapO_spec hs
      refine ⟨by simp [h1], fun j x hx => ?_⟩
      cases j with
      | zero => simp only [List.getElem?_cons_zero, Option.some.injEq] at hx; subst hx; exact ⟨b, by simp, hb⟩
      | succ j => simpa using h2 j x (by simpa using hx)
    · cases h

/-- Cells of an aggregate. -/
noncomputable def ARel (ρ : BMap) (c c' : Array Value) : Prop := c.size = c'.size ∧ ∀ (j : Nat) (v v' : Value), c[j]? = some v → c'[j]? = some v' → VRel ρ v v'

theorem ARel.get {ρ : BMap} {c c' : Array Value} (h : ARel ρ c c') {j : Nat} {v : Value} (hv : c[j]? = some v) : ∃ u, c'[j]? = some u ∧ VRel ρ v u := by
  have hj : j < c'.size := by rw [← h.1]; exact (Array.getElem?_eq_some_iff.1 hv).1
  exact ⟨c'[j], Array.getElem?_eq_getElem hj, h.2 j v _ hv (Array.getElem?_eq_getElem hj)⟩

theorem LRel.arr {ρ : BMap} {l : List Value} {c : Array Value} (h : LRel ρ l c) : ARel ρ l.toArray c :=
  ⟨by simpa using h.1, fun j v v' hv hv' => h.2 j v v' (by simpa using hv) hv'⟩

theorem ARel.list {ρ : BMap} {l : Array Value} {c : Array Value} (h : ARel ρ l c) : LRel ρ l.toList c :=
  ⟨by simpa using h.1, fun j v v' hv hv' => h.2 j v v' (by simpa using hv) hv'⟩

theorem LRel.get {ρ : BMap} {l : List Value} {c : Array Value} (h : LRel ρ l c) {j : Nat} {v : Value} (hv : l[j]? = some v) : ∃ u, c[j]? = some u ∧ VRel ρ v u :=
  h.arr.get (by simpa using hv)

theorem vrel_cells {ρ : BMap} {v u : Value} (h : VRel ρ v u) : ARel ρ v.cells u.cells := by
  have one : ∀ a b : Value, VRel ρ a b → ARel ρ #[a] #[b] := by
    intro a b hab
    refine ⟨rfl, fun j v v' hv hv' => ?_⟩
    cases j with
    | zero => simp at hv hv'; subst hv; subst hv'; exact hab
    | succ j => simp at hv
  cases h with
  | agg hs h => exact ⟨hs, h⟩
  | bool b => exact one _ _ (.bool b)
  | int k n => exact one _ _ (.int k n)
  | string s => exact one _ _ (.string s)
  | pnil => exact one _ _ .pnil
  | ptr h => exact one _ _ (.ptr h)
  | snil => exact one _ _ .snil
  | slice h hl ht => exact one _ _ (.slice h hl ht)
  | sempty => exact one _ _ .sempty
  | rnil => exact one _ _ .rnil
  | rnone => exact one _ _ .rnone
  | rsl h hl ht => exact one _ _ (.rsl h hl ht)
  | rptr h ht => exact one _ _ (.rptr h ht)
  | gptr => exact one _ _ .gptr
  | opq hl => exact one _ _ (.opq hl)
  | gsl hl => exact one _ _ (.gsl hl)
  | mnil => exact one _ _ .mnil
  | mptr h => exact one _ _ (.mptr h)
  | fnil => exact one _ _ .fnil
  | func hs h => exact one _ _ (.func hs h)
  | bound h => exact one _ _ (.bound h)
  | yield h => exact one _ _ (.yield h)
  | inil => exact one _ _ .inil
  | iface h => exact one _ _ (.iface h)
  | tuple hs h => exact one _ _ (.tuple hs h)

/-- A part of an aggregate. -/
noncomputable def aPart (T : TypeId → Option TI) (t : TypeId) (cs : Array Value) (off : Nat) : Option Value :=
  match T t with
  | some x => if aggD x.desc then some (.agg (exA cs off (off + x.size))) else getA cs off
  | none => none

theorem aPart_eq (T : TypeId → Option TI) (t : TypeId) (cs : Array Value) (off : Nat) : aPart T t cs off = match T t with
    | some x => if aggD x.desc then some (.agg (cs.extract off (off + x.size))) else cs[off]?
    | none => none := by
  unfold aPart
  simp only [exA_eq, getA_eq]

theorem aPart_sound {P : Program} {T : TypeId → Option TI} (hT : TOk P T) {t : TypeId} {cs cs' : Array Value} {off : Nat} {v : Value} (h : aPart T t cs off = some v) {ρ : BMap} (hr : ARel ρ cs cs') (w : World) :
    ∃ u, (part t cs' off).run P w = .ok u w ∧ VRel ρ v u := by
  rw [aPart_eq] at h
  split at h
  · rename_i x hx
    unfold part
    simp only [Sem.run_bind, hT.agg hx w, Result.andThen_ok]
    split at h
    · rename_i ha
      cases h
      rw [ha]
      refine ⟨.agg (cs'.extract off (off + x.size)), by simp [hT.size hx w], .agg (by simp [hr.1]) fun j a b hj hj' => ?_⟩
      simp only [Array.getElem?_extract] at hj hj'
      split at hj
      · split at hj'
        · exact hr.2 _ a b hj hj'
        · cases hj'
      · cases hj
    · rename_i ha
      have ha' : aggD x.desc = false := by simpa using ha
      rw [ha']
      obtain ⟨u, hu, hv⟩ := hr.get h
      exact ⟨u, by simp [hu], hv⟩
  · cases h

/-- The places of a composite's parts. -/
noncomputable def fieldPlaces (T : TypeId → Option TI) : List Field → Option (List (Nat × Nat))
  | [] => some []
  | f :: r => match T f.type, fieldPlaces T r with
    | some x, some s => some ((f.offset, x.size) :: s)
    | _, _ => none

noncomputable def aFill (place : Nat → Option (Nat × Nat)) : List (Nat × Value) → Array Value → Option (Array Value)
  | [], cells => some cells
  | (i, v) :: rest, cells =>
    match place i with
    | none => none
    | some (off, size) => if v.cells.size ≠ size || off + v.cells.size > cells.size then none
      else aFill place rest (v.cells.zipIdx.foldl (fun cs (c, j) => cs.setIfInBounds (off + j) c) cells)

noncomputable def PRel (ρ : BMap) : List (Nat × Value) → List (Nat × Value) → Prop
  | [], [] => True
  | (i, v) :: r, (j, u) :: s => i = j ∧ VRel ρ v u ∧ PRel ρ r s
  | _, _ => False

theorem arel_set {ρ : BMap} {c c' : Array Value} (h : ARel ρ c c') {i : Nat} {v u : Value} (hv : VRel ρ v u) : ARel ρ (c.setIfInBounds i v) (c'.setIfInBounds i u) := by
  refine ⟨by simp [h.1], fun j a b ha hb => ?_⟩
  rw [Array.getElem?_setIfInBounds] at ha hb
  by_cases e : i = j
  · simp only [e, if_true] at ha hb
    split at ha
    · split at hb
      · cases ha; cases hb; exact hv
      · cases hb
    · cases ha
  · simp only [e, if_false] at ha hb
    exact h.2 j a b ha hb

theorem arel_fold {ρ : BMap} (off : Nat) : ∀ (l l' : List (Value × Nat)) (c c' : Array Value), l.length = l'.length → (∀ (j : Nat) (a b : Value × Nat), l[j]? = some a → l'[j]? = some b → VRel ρ a.1 b.1 ∧ a.2 = b.2) → ARel ρ c c' →
    ARel ρ (l.foldl (fun cs p => cs.setIfInBounds (off + p.2) p.1) c) (l'.foldl (fun cs p => cs.setIfInBounds (off + p.2) p.1) c')
  | [], [], _, _, _, _, h => h
  | [], b :: r, _, _, hl, _, _ => by simp at hl
  | a :: r, [], _, _, hl, _, _ => by simp at hl
  | a :: r, b :: s, c, c', hl, h, hc => by
    have h0 := h 0 a b (by simp) (by simp)
    simp only [List.foldl_cons]
    refine arel_fold off r s _ _ (by simpa using hl) (fun j x y hx hy => h (j + 1) x y (by simpa using hx) (by simpa using hy)) ?_
    rw [h0.2]
    exact arel_set hc h0.1

theorem aFill_sound {ρ : BMap} {place : Nat → Option (Nat × Nat)} : ∀ (ps qs : List (Nat × Value)) (c c' r : Array Value), PRel ρ ps qs → ARel ρ c c' → aFill place ps c = some r →
    ∃ r', Instr.fill place c' qs = some r' ∧ ARel ρ r r'
  | [], [], c, c', r, _, hc, h => by
    simp only [aFill, Option.some.injEq] at h
    subst h
    exact ⟨c', rfl, hc⟩
  | [], _ :: _, _, _, _, h, _, _ => h.elim
  | _ :: _, [], _, _, _, h, _, _ => h.elim
  | (i, v) :: rest, (j, u) :: qs, c, c', r, hp, hc, h => by
    obtain ⟨rfl, hv, hrest⟩ := hp
    simp only [aFill] at h
    have hcs := vrel_cells hv
    cases hpl : place i with
    | none => simp [hpl] at h
    | some x =>
      obtain ⟨off, size⟩ := x
      simp only [hpl] at h
      split at h
      · cases h
      · rename_i hcond
        have hcond' : (decide (u.cells.size ≠ size) || decide (off + u.cells.size > c'.size)) = false := by
          rw [← hcs.1, ← hc.1]; simpa using hcond
        have hfold := arel_fold (ρ := ρ) off v.cells.zipIdx.toList u.cells.zipIdx.toList c c' (by simp [hcs.1]) (by
          intro j a b ha hb
          simp only [Array.toList_zipIdx, List.getElem?_zipIdx, Nat.zero_add, Option.map_eq_some_iff] at ha hb
          obtain ⟨x, hx, rfl⟩ := ha
          obtain ⟨y, hy, rfl⟩ := hb
          exact ⟨hcs.2 j x y (by simpa using hx) (by simpa using hy), rfl⟩) hc
        rw [Array.foldl_toList, Array.foldl_toList] at hfold
        obtain ⟨r', h1, h2⟩ := aFill_sound rest qs _ _ r hrest hfold h
        exact ⟨r', by simp only [Instr.fill, hpl, hcond', Bool.false_eq_true, if_false]; exact h1, h2⟩

noncomputable def partsO (g : Operand → Option Value) : List (Nat × Operand) → Option (List (Nat × Value))
  | [] => some []
  | (i, x) :: r => match g x, partsO g r with
    | some v, some s => some ((i, v) :: s)
    | _, _ => none

theorem partsO_rel {ρ : BMap} {g : Operand → Option Value} {E : Operand → Value} (hE : ERel ρ g E) : ∀ (l : List (Nat × Operand)) (s : List (Nat × Value)), partsO g l = some s → PRel ρ s (l.map fun p => (p.1, E p.2))
  | [], s, h => by simp only [partsO, Option.some.injEq] at h; subst h; exact trivial
  | (i, x) :: r, s, h => by
    simp only [partsO] at h
    split at h
    · rename_i v s' hv hs
      cases h
      exact ⟨rfl, hE _ _ hv, partsO_rel hE r s' hs⟩
    · cases h

noncomputable def aBuild (T : TypeId → Option TI) (t : TypeId) (ps : List (Nat × Value)) : Option Value :=
  match T t with
  | some x =>
    match x.desc with
    | .struct fields => match fieldPlaces T fields.toList with
      | some places => (aFill (places[·]?) ps x.zero.cells).map .agg
      | none => none
    | .array _ elem => match T elem with
      | some y => (aFill (fun i => some (i * y.size, y.size)) ps x.zero.cells).map .agg
      | none => none
    | _ => none
  | none => none

theorem run_places {P : Program} {T : TypeId → Option TI} (hT : TOk P T) (w : World) : ∀ (l : List Field) (s : List (Nat × Nat)), fieldPlaces T l = some s →
    (l.mapM (m := Sem) fun f => do pure (f.offset, ← sizeOf f.type)).run P w = .ok s w
  | [], s, h => by simp only [fieldPlaces, Option.some.injEq] at h; subst h; simp
  | f :: r, s, h => by
    simp only [fieldPlaces] at h
    split at h
    · rename_i x s' hx hs
      cases h
      have ih := run_places hT w r s' hs
      simp only [List.mapM_cons, Sem.run_bind, hT.size hx w, Result.andThen_ok, ih, Sem.run_pure]
    · cases h

theorem arel_refl_zero {P : Program} {T : TypeId → Option TI} (hT : TOk P T) {t : TypeId} {x : TI} (h : T t = some x) (ρ : BMap) : ARel ρ x.zero.cells x.zero.cells :=
  vrel_cells (closedV_rel ρ 6 _ (hT t x h).2.2.1)

theorem aBuild_sound {P : Program} {T : TypeId → Option TI} (hT : TOk P T) {t : TypeId} {ps : List (Nat × Value)} {v : Value} (h : aBuild T t ps = some v) {ρ : BMap} {qs : Array (Nat × Value)} (hp : PRel ρ ps qs.toList) (w : World) :
    ∃ u, (Instr.build t qs).run P w = .ok u w ∧ VRel ρ v u := by
  unfold aBuild at h
  split at h
  · rename_i x hx
    have hz := hT.zeroV hx w
    have hu := run_underlying (hT.under hx) w
    have h0 := arel_refl_zero hT hx ρ
    split at h
    · rename_i fields hd
      split at h
      · rename_i places hpl
        simp only [Option.map_eq_some_iff] at h
        obtain ⟨r, hr, rfl⟩ := h
        obtain ⟨r', h1, h2⟩ := aFill_sound ps qs.toList _ _ r hp h0 hr
        have hm := run_places hT w _ _ hpl
        rw [hd] at hu
        refine ⟨.agg r', ?_, .agg h2.1 h2.2⟩
        have hm' : (fields.mapM (m := Sem) fun f => do pure (f.offset, ← sizeOf f.type)).run P w = .ok places.toArray w := by
          rw [Array.mapM_eq_mapM_toList, Sem.run_map, hm]; rfl
        simp only [Instr.build, Sem.run_bind, hz, Result.andThen_ok, hu, hm']
        simp only [List.getElem?_toArray, h1]
        rfl
      · cases h
    · rename_i n elem hd
      split at h
      · rename_i y hy
        simp only [Option.map_eq_some_iff] at h
        obtain ⟨r, hr, rfl⟩ := h
        obtain ⟨r', h1, h2⟩ := aFill_sound ps qs.toList _ _ r hp h0 hr
        rw [hd] at hu
        refine ⟨.agg r', ?_, .agg h2.1 h2.2⟩
        simp only [Instr.build, Sem.run_bind, hz, Result.andThen_ok, hu, hT.size hy w]
        simp only [h1]
        rfl
      · cases h
    · cases h
  · cases h

end Go.Proofs.Ytjginpeoblilpaa
