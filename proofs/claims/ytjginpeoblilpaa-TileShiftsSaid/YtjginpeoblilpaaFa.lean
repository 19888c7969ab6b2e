/-
  What is proved: nothing of the program. This text holds known answers that may lay new memory, over arguments whose memory may hold addresses: what a function answers over a small memory of its own it answers over every memory.
-/
import Derived.Test.YtjginpeoblilpaaEvS
namespace Go.Proofs.Ytjginpeoblilpaa
open Go.RowKit
set_option linter.unusedSimpArgs false
set_option linter.unusedVariables false

/-- A value over small numbers. -/
noncomputable def canonW : Nat → List Nat → Value → Option (Value × List Nat)
  | 0, _, _ => none
  | _ + 1, r, .slice (some ⟨a, off, none⟩) len sz => some (.slice (some ⟨(idOf r a).1, off, none⟩) len sz, (idOf r a).2)
  | _ + 1, r, .pointer (some ⟨a, off, none⟩) => some (.pointer (some ⟨(idOf r a).1, off, none⟩), (idOf r a).2)
  | _ + 1, r, .int k n => some (.int k n, r)
  | _ + 1, r, .bool b => some (.bool b, r)
  | _ + 1, r, .string s => some (.string s, r)
  | _ + 1, r, .slice none 0 0 => some (.slice none 0 0, r)
  | _ + 1, r, .pointer none => some (.pointer none, r)
  | _ + 1, r, .map none => some (.map none, r)
  | _ + 1, r, .nilFunc => some (.nilFunc, r)
  | _ + 1, r, .nilIface => some (.nilIface, r)
  | _ + 1, r, .func (.func f) ⟨[]⟩ ⟨[]⟩ => some (.func (.func f) #[] #[], r)
  | n + 1, r, .agg c => match canonL (canonW n) c.toList r with
    | some (cs, r') => some (.agg cs.toArray, r')
    | none => none
  | n + 1, r, .tuple c => match canonL (canonW n) c.toList r with
    | some (cs, r') => some (.tuple cs.toArray, r')
    | none => none
  | _, _, _ => none

theorem canonW_ok : ∀ n, CanonOK (canonW n)
  | 0 => by intro r v cv r' h; simp [canonW] at h
  | n + 1 => by
    intro r v cv r' h
    unfold canonW at h
    split at h
    · rename_i e; cases e
    · rename_i r _ _ _ _ a off len sz _
      cases h
      obtain ⟨h1, h2⟩ := idOf_get r a
      refine ⟨h2, fun ρ u s hv => ?_⟩
      cases hv with
      | slice hρ hl ht => exact .slice (by rw [bmapC_get h1]; exact hρ) hl ht
    · rename_i r _ _ _ _ a off _
      cases h
      obtain ⟨h1, h2⟩ := idOf_get r a
      refine ⟨h2, fun ρ u s hv => ?_⟩
      cases hv with
      | ptr hρ => exact .ptr (by rw [bmapC_get h1]; exact hρ)
    · cases h
      exact ⟨⟨[], by simp⟩, fun ρ u s hv => by cases hv; exact .int _ _⟩
    · cases h
      exact ⟨⟨[], by simp⟩, fun ρ u s hv => by cases hv; exact .bool _⟩
    · cases h
      exact ⟨⟨[], by simp⟩, fun ρ u s hv => by cases hv; exact .string _⟩
    · cases h
      exact ⟨⟨[], by simp⟩, fun ρ u s hv => by cases hv; exact .snil⟩
    · cases h
      exact ⟨⟨[], by simp⟩, fun ρ u s hv => by cases hv; exact .pnil⟩
    · cases h
      exact ⟨⟨[], by simp⟩, fun ρ u s hv => by cases hv; exact .mnil⟩
    · cases h
      exact ⟨⟨[], by simp⟩, fun ρ u s hv => by cases hv; exact .fnil⟩
    · cases h
      exact ⟨⟨[], by simp⟩, fun ρ u s hv => by cases hv; exact .inil⟩
    · cases h
      refine ⟨⟨[], by simp⟩, fun ρ u s hv => ?_⟩
      cases hv with
      | func hs hr => exact .func hs (fun j v v' hj _ => by simp at hj)
    · rename_i m c e
      cases e
      split at h
      · rename_i cs r2 h2
        cases h
        obtain ⟨g1, g2, g3⟩ := canonL_ok (canonW_ok n) _ _ _ _ h2
        refine ⟨g1, fun ρ u s hv => ?_⟩
        cases hv with
        | agg hs hr =>
          rename_i c'
          have := (g3 ρ c' s ⟨by simpa using hs, fun j a b ha hb => hr j a b (by simpa using ha) hb⟩).arr
          exact .agg this.1 this.2
      · cases h
    · rename_i m c e
      cases e
      split at h
      · rename_i cs r2 h2
        cases h
        obtain ⟨g1, g2, g3⟩ := canonL_ok (canonW_ok n) _ _ _ _ h2
        refine ⟨g1, fun ρ u s hv => ?_⟩
        cases hv with
        | tuple hs hr =>
          rename_i c'
          have := (g3 ρ c' s ⟨by simpa using hs, fun j a b ha hb => hr j a b (by simpa using ha) hb⟩).arr
          exact .tuple this.1 this.2
      · cases h
    · cases h

/-- The blocks over small numbers, and those that they lead to. -/
noncomputable def deepW (bs : List (Nat × ABlk)) (res : Bool) : Nat → List Nat → Nat → Option (List (Nat × ABlk) × List Nat)
  | 0, _, _ => none
  | n + 1, r, i => match r[i]? with
    | none => some ([], r)
    | some a => match lookB bs a with
      | some (.cells ro cs) => if res && ro then none else
        match canonL (canonW 3) cs r with
        | some (ccs, r1) => match deepW bs res n r1 (i + 1) with
          | some (cb, r2) => some ((i, .cells (!res) ccs) :: cb, r2)
          | none => none
        | none => none
      | _ => none

noncomputable def DeepOK (bs : List (Nat × ABlk)) (res : Bool) (r2 : List Nat) (i : Nat) (p : Nat × ABlk) : Prop :=
  i ≤ p.1 ∧ ∃ a ro cs ccs, r2[p.1]? = some a ∧ lookB bs a = some (.cells ro cs) ∧ (res = true → ro = false) ∧ p.2 = .cells (!res) ccs ∧ ccs.length = cs.length ∧
    ∀ (ρ : BMap) (us : Array Value), LRel ρ cs us → LRel (bmapC ρ r2) ccs us

theorem deepW_spec {bs : List (Nat × ABlk)} {res : Bool} : ∀ (n : Nat) (r : List Nat) (i : Nat) (cb : List (Nat × ABlk)) (r2 : List Nat), deepW bs res n r i = some (cb, r2) →
    (∃ s, r2 = r ++ s) ∧ ∀ p ∈ cb, DeepOK bs res r2 i p
  | 0, r, i, cb, r2, h => by cases h
  | n + 1, r, i, cb, r2, h => by
    unfold deepW at h
    split at h
    · cases h
      exact ⟨⟨[], by simp⟩, fun p hp => by cases hp⟩
    · rename_i a ha
      split at h
      · rename_i ro cs hl
        split at h
        · cases h
        · rename_i hro
          split at h
          · rename_i ccs r1 h1
            split at h
            · rename_i cb' r2' h2
              cases h
              obtain ⟨⟨s1, e1⟩, g2, g3⟩ := canonL_ok (canonW_ok 3) _ _ _ _ h1
              obtain ⟨⟨s2, e2⟩, g4⟩ := deepW_spec n r1 (i + 1) cb' _ h2
              refine ⟨⟨s1 ++ s2, by rw [e2, e1, List.append_assoc]⟩, fun p hp => ?_⟩
              rcases List.mem_cons.1 hp with rfl | hp
              · refine ⟨Nat.le_refl _, a, ro, cs, ccs, ?_, hl, fun hres => ?_, rfl, g2, fun ρ us hu => ?_⟩
                · rw [e2, e1, List.append_assoc, List.getElem?_append_left (List.getElem?_eq_some_iff.1 ha).1]
                  exact ha
                · subst hres
                  simpa using hro
                · have := g3 ρ us s2 hu
                  rwa [← e2] at this
              · obtain ⟨q1, q2⟩ := g4 p hp
                exact ⟨by omega, q2⟩
            · cases h
          · cases h
      · cases h

theorem brel_canon {ρ ρ2 : BMap} {B : Nat} {w : World} {x : Nat × Nat × Nat} {ro : Bool} {cs ccs : List Value} (h : BRel ρ B w x (.cells ro cs)) (hl : ccs.length = cs.length)
    (hr : ∀ us : Array Value, LRel ρ cs us → LRel ρ2 ccs us) : ∃ (conc : Array Value) (e : TypeId) (fz : Nat × Nat), w.heap[x.1]? = some (.cells conc e fz) ∧
      (∀ (j : Nat) (v : Value), ccs[j]? = some v → ∃ u, conc[x.2.1 + j]? = some u ∧ VRel ρ2 v u) ∧ (if ro then x.1 < B else B ≤ x.1 ∧ (fz = (0, 0) ∨ x.2.1 + x.2.2 ≤ fz.1) ∧ x.2.1 + x.2.2 ≤ conc.size) ∧ ccs.length ≤ x.2.2 := by
  obtain ⟨conc, e, fz, h1, h2, h3, h4⟩ := h
  refine ⟨conc, e, fz, h1, fun j v hv => ?_, h3, by omega⟩
  have hL := hr (((List.range cs.length).map fun j => (conc[x.2.1 + j]?).getD undef).toArray) ⟨by simp, fun j a b ha hb => by
    obtain ⟨u, hu, hr'⟩ := h2 j a ha
    have hj : j < cs.length := (List.getElem?_eq_some_iff.1 ha).1
    simp only [List.getElem?_toArray, List.getElem?_map, List.getElem?_range hj, Option.map_some, hu, Option.getD_some, Option.some.injEq] at hb
    subst hb
    exact hr'⟩
  have hj : j < cs.length := by rw [← hl]; exact (List.getElem?_eq_some_iff.1 hv).1
  obtain ⟨u, hu, _⟩ := h2 j cs[j] (List.getElem?_eq_getElem hj)
  refine ⟨u, hu, hL.2 j v u hv ?_⟩
  simp only [List.getElem?_toArray, List.getElem?_map, List.getElem?_range hj, Option.map_some, hu, Option.getD_some]

/-- Arguments over a small memory. -/
noncomputable def canon2 (args : List Value) (H : AH) : Option (List Value × AH × List Nat) :=
  match canonL (canonW 4) args [] with
  | some (cs, r) => match deepW H.bs false 60 r 0 with
    | some (cb, r2) => some (cs, { next := r2.length, bs := cb.reverse }, r2)
    | none => none
  | none => none

theorem canon2_ok {args cargs : List Value} {H Hc : AH} {r : List Nat} (h : canon2 args H = some (cargs, Hc, r)) {B : Nat} {ρ : BMap} {w : World} {args' : Array Value} (hargs : LRel ρ args args') (hH : HRel B ρ H.bs w) :
    Hc.next = r.length ∧ LRel (bmapC ρ r) cargs args' ∧ HRel w.heap.size (bmapC ρ r) Hc.bs w := by
  unfold canon2 at h
  split at h
  · rename_i cs r1 h1
    split at h
    · rename_i cb r2 h2
      cases h
      obtain ⟨_, _, g3⟩ := canonL_ok (canonW_ok 4) _ _ _ _ h1
      obtain ⟨⟨s, e⟩, g4⟩ := deepW_spec _ _ _ _ _ h2
      refine ⟨rfl, by have := g3 ρ args' s hargs; rwa [← e] at this, ?_⟩
      have one : ∀ i k, lookB cb.reverse i = some k → k.rw = false ∧ ∃ x, bmapC ρ r i = some x ∧ BRel (bmapC ρ r) w.heap.size w x k := by
        intro i k hk
        obtain ⟨_, a, ro, cs, ccs, q1, q2, _, q4, q5, q6⟩ := g4 _ (List.mem_reverse.1 (lookB_mem hk))
        simp only at q1 q4
        subst q4
        obtain ⟨x, hx, hr⟩ := hH.blk a _ q2
        obtain ⟨conc, ty, fz, c1, c2, _, c4⟩ := brel_canon hr q5 (q6 ρ)
        exact ⟨rfl, x, by simp [bmapC, q1, hx], conc, ty, fz, c1, c2, by simpa using hr.lt, c4⟩
      refine ⟨Nat.le_refl _, fun i k hk => (one i k hk).2, fun i j ki kj xi xj hi hj hki => ?_, hH.glob.of hH.hB fun _ _ => rfl⟩
      rw [(one i ki hi).1] at hki
      cases hki
    · cases h
  · cases h

/-- An answer and its new memory, over small numbers. -/
noncomputable def resW (v : Value) (H : AH) (c : Nat) : Option (Value × List (Nat × ABlk) × List Nat) :=
  match canonW 5 (List.range c) v with
  | some (v', r1) => match deepW H.bs true 200 r1 c with
    | some (cb, r2) => some (v', cb, r2)
    | none => none
  | none => none

/-- Other numbers. -/
noncomputable def renW (σ : Nat → Nat) : Nat → Value → Option Value
  | 0, _ => none
  | _ + 1, .slice (some ⟨a, off, none⟩) len sz => some (.slice (some ⟨σ a, off, none⟩) len sz)
  | _ + 1, .pointer (some ⟨a, off, none⟩) => some (.pointer (some ⟨σ a, off, none⟩))
  | _ + 1, .int k n => some (.int k n)
  | _ + 1, .bool b => some (.bool b)
  | _ + 1, .string s => some (.string s)
  | _ + 1, .slice none 0 0 => some (.slice none 0 0)
  | _ + 1, .pointer none => some (.pointer none)
  | _ + 1, .map none => some (.map none)
  | _ + 1, .nilFunc => some .nilFunc
  | _ + 1, .nilIface => some .nilIface
  | _ + 1, .func (.func f) ⟨[]⟩ ⟨[]⟩ => some (.func (.func f) #[] #[])
  | n + 1, .agg c => match mapO (renW σ n) c.toList with
    | some cs => some (.agg cs.toArray)
    | none => none
  | n + 1, .tuple c => match mapO (renW σ n) c.toList with
    | some cs => some (.tuple cs.toArray)
    | none => none
  | _, _ => none

theorem renW_rel {σ : Nat → Nat} {ρ1 ρ2 : BMap} (hσ : ∀ i x, ρ1 i = some x → ρ2 (σ i) = some x) : ∀ (n : Nat) (v v' u : Value), renW σ n v = some v' → VRel ρ1 v u → VRel ρ2 v' u
  | 0, v, v', u, h, _ => by cases h
  | n + 1, v, v', u, h, hr => by
    unfold renW at h
    split at h
    · rename_i e; cases e
    · cases h
      cases hr with
      | slice hρ hl ht => exact .slice (hσ _ _ hρ) hl ht
    · cases h
      cases hr with
      | ptr hρ => exact .ptr (hσ _ _ hρ)
    · cases h; cases hr; exact .int _ _
    · cases h; cases hr; exact .bool _
    · cases h; cases hr; exact .string _
    · cases h; cases hr; exact .snil
    · cases h; cases hr; exact .pnil
    · cases h; cases hr; exact .mnil
    · cases h; cases hr; exact .fnil
    · cases h; cases hr; exact .inil
    · cases h
      cases hr with
      | func hs hr => exact .func hs (fun j v v' hj _ => by simp at hj)
    · rename_i m c e
      cases e
      split at h
      · rename_i cs hm
        cases h
        cases hr with
        | agg hs hr =>
          rename_i c'
          obtain ⟨g1, g2⟩ := mapO_spec hm
          refine .agg (by simp only [List.size_toArray, g1, Array.length_toList]; exact hs) fun j a b ha hb => ?_
          have hj : j < c.size := by
            have := (Array.getElem?_eq_some_iff.1 ha).1
            simpa [g1] using this
          obtain ⟨d, hd, hd'⟩ := g2 j c[j] (by simp [hj])
          have : d = a := by
            have h2 : cs[j]? = some a := by simpa using ha
            rw [hd] at h2; exact Option.some.inj h2
          subst this
          exact renW_rel hσ n _ _ _ hd' (hr j c[j] b (Array.getElem?_eq_getElem hj) hb)
      · cases h
    · rename_i m c e
      cases e
      split at h
      · rename_i cs hm
        cases h
        cases hr with
        | tuple hs hr =>
          rename_i c'
          obtain ⟨g1, g2⟩ := mapO_spec hm
          refine .tuple (by simp only [List.size_toArray, g1, Array.length_toList]; exact hs) fun j a b ha hb => ?_
          have hj : j < c.size := by
            have := (Array.getElem?_eq_some_iff.1 ha).1
            simpa [g1] using this
          obtain ⟨d, hd, hd'⟩ := g2 j c[j] (by simp [hj])
          have : d = a := by
            have h2 : cs[j]? = some a := by simpa using ha
            rw [hd] at h2; exact Option.some.inj h2
          subst this
          exact renW_rel hσ n _ _ _ hd' (hr j c[j] b (Array.getElem?_eq_getElem hj) hb)
      · cases h
    · cases h

noncomputable def eqW : Nat → Value → Value → Bool
  | _ + 1, .int k n, .int k' m => sameK k k' && n == m
  | _ + 1, .bool a, .bool b => a == b
  | _ + 1, .slice none 0 0, .slice none 0 0 => true
  | _ + 1, .pointer none, .pointer none => true
  | _ + 1, .map none, .map none => true
  | _ + 1, .nilFunc, .nilFunc => true
  | _ + 1, .nilIface, .nilIface => true
  | _ + 1, .func (.func f) ⟨[]⟩ ⟨[]⟩, .func (.func g) ⟨[]⟩ ⟨[]⟩ => Nat.beq f g
  | _ + 1, .pointer (some ⟨a, o, none⟩), .pointer (some ⟨b, p, none⟩) => Nat.beq a b && Nat.beq o p
  | _ + 1, .slice (some ⟨a, o, none⟩) l s, .slice (some ⟨b, p, none⟩) m t => Nat.beq a b && Nat.beq o p && Nat.beq l m && Nat.beq s t
  | n + 1, .agg a, .agg b => eqV.eqL (eqW n) a.toList b.toList
  | n + 1, .tuple a, .tuple b => eqV.eqL (eqW n) a.toList b.toList
  | _ + 1, .string a, .string b => bytesEq a b
  | _, _, _ => false

theorem eqW_sound : ∀ (n : Nat) (x y : Value), eqW n x y = true → x = y
  | 0, x, y, h => by simp [eqW] at h
  | n + 1, x, y, h => by
    unfold eqW at h
    split at h
    · simp only [Bool.and_eq_true] at h
      rw [sameK_eq h.1, eq_of_beq h.2]
    · rw [eq_of_beq h]
    · rfl
    · rfl
    · rfl
    · rfl
    · rfl
    · rw [Nat.eq_of_beq_eq_true h]
    · simp only [Bool.and_eq_true] at h
      rw [Nat.eq_of_beq_eq_true h.1, Nat.eq_of_beq_eq_true h.2]
    · simp only [Bool.and_eq_true] at h
      obtain ⟨⟨⟨h1, h2⟩, h3⟩, h4⟩ := h
      rw [Nat.eq_of_beq_eq_true h1, Nat.eq_of_beq_eq_true h2, Nat.eq_of_beq_eq_true h3, Nat.eq_of_beq_eq_true h4]
    · rename_i a b e
      cases e
      have := eqL_sound (eqW_sound n) _ _ h
      congr 1
      exact Array.toList_inj.1 this
    · rename_i a b e
      cases e
      have := eqL_sound (eqW_sound n) _ _ h
      congr 1
      exact Array.toList_inj.1 this
    · rw [bytesEq_eq, ByteArray.toList_eq, ByteArray.toList_eq] at h
      congr 1
      exact Go.WideShapes.bytes_inj (eq_of_beq h)
    · cases h

noncomputable def eqC : List (Nat × ABlk) → List (Nat × ABlk) → Bool
  | [], [] => true
  | (i, .cells p a) :: r, (j, .cells q b) :: s => Nat.beq i j && p == q && eqV.eqL (eqW 3) a b && eqC r s
  | _, _ => false

theorem eqC_sound : ∀ (l s : List (Nat × ABlk)), eqC l s = true → l = s
  | l, s, h => by
    unfold eqC at h
    split at h
    · rfl
    · simp only [Bool.and_eq_true] at h
      rw [Nat.eq_of_beq_eq_true h.1.1.1, eq_of_beq h.1.1.2, eqL_sound (eqW_sound 3) _ _ h.1.2, eqC_sound _ _ h.2]
    · cases h
termination_by l => l.length

noncomputable def nodupB : List Nat → Bool
  | [] => true
  | a :: r => !natMem r a && nodupB r

theorem nodupB_spec : ∀ (l : List Nat), nodupB l = true → ∀ (i j a : Nat), l[i]? = some a → l[j]? = some a → i = j
  | [], _, i, j, a, hi, _ => by simp at hi
  | b :: r, h, i, j, a, hi, hj => by
    simp only [nodupB, Bool.and_eq_true, Bool.not_eq_true'] at h
    have hb : ∀ q, r[q]? = some b → False := fun q hq => by
      have := (natMem_iff r b).2 (List.mem_of_getElem? hq)
      rw [h.1] at this; cases this
    cases i with
    | zero =>
      cases j with
      | zero => rfl
      | succ j =>
        simp only [List.getElem?_cons_zero, Option.some.injEq] at hi
        subst hi
        exact (hb j (by simpa using hj)).elim
    | succ i =>
      cases j with
      | zero =>
        simp only [List.getElem?_cons_zero, Option.some.injEq] at hj
        subst hj
        exact (hb i (by simpa using hi)).elim
      | succ j => rw [nodupB_spec r h.2 i j a (by simpa using hi) (by simpa using hj)]

/-- An answer that is known: the arguments and their memory, the answer and its new memory. -/
structure MF where
  f : FuncId
  args : List Value
  H : AH
  v : Value
  nb : List (Nat × ABlk)

noncomputable def MFok (call0 : Value → List Value → AH → Option (Value × AH)) (e : MF) : Prop :=
  ∃ v H' r2, call0 (.func (.func e.f) #[] #[]) e.args e.H = some (v, H') ∧ resW v H' e.H.next = some (e.v, e.nb, r2) ∧ (∀ (i j a : Nat), r2[i]? = some a → r2[j]? = some a → i = j) ∧ r2.length = e.H.next + e.nb.length

noncomputable def mfB (call0 : Value → List Value → AH → Option (Value × AH)) (e : MF) : Bool :=
  match call0 (.func (.func e.f) #[] #[]) e.args e.H with
  | some (v, H') => match resW v H' e.H.next with
    | some (v', cb, r2) => eqW 6 v' e.v && eqC cb e.nb && nodupB r2 && Nat.beq r2.length (e.H.next + e.nb.length)
    | none => false
  | none => false

theorem mfB_ok {call0 : Value → List Value → AH → Option (Value × AH)} {e : MF} (h : mfB call0 e = true) : MFok call0 e := by
  unfold mfB at h
  split at h
  · rename_i v H' hc
    split at h
    · rename_i v' cb r2 hr
      simp only [Bool.and_eq_true] at h
      obtain ⟨⟨⟨h1, h2⟩, h3⟩, h4⟩ := h
      have e1 := eqW_sound 6 _ _ h1
      have e2 := eqC_sound _ _ h2
      subst e1; subst e2
      exact ⟨v, H', r2, hc, hr, nodupB_spec _ h3, Nat.eq_of_beq_eq_true h4⟩
    · cases h
  · cases h

noncomputable def findF (f : FuncId) (args : List Value) (H : AH) : List MF → Option MF
  | [] => none
  | e :: r => if Nat.beq e.f f && eqV.eqL (eqW 5) e.args args && Nat.beq e.H.next H.next && eqC e.H.bs H.bs then some e else findF f args H r

theorem findF_spec {f : FuncId} {args : List Value} {H : AH} : ∀ {l : List MF} {e : MF}, findF f args H l = some e → e ∈ l ∧ e.f = f ∧ e.args = args ∧ e.H = H
  | [], e, h => by cases h
  | x :: r, e, h => by
    simp only [findF] at h
    split at h
    · rename_i hc
      simp only [Bool.and_eq_true] at hc
      cases h
      refine ⟨List.mem_cons_self, Nat.eq_of_beq_eq_true hc.1.1.1, eqL_sound (eqW_sound 5) _ _ hc.1.1.2, ?_⟩
      have h1 := Nat.eq_of_beq_eq_true hc.1.2
      have h2 := eqC_sound _ _ hc.2
      cases hx : x.H with
      | mk a b => cases hH : H with
        | mk c d => rw [hx, hH] at h1 h2; simp only at h1 h2; rw [h1, h2]
    · obtain ⟨h1, h2⟩ := findF_spec h
      exact ⟨List.mem_cons_of_mem _ h1, h2⟩

noncomputable def knowsF (l : List MF) (f : FuncId) : Bool := l.any fun e => Nat.beq e.f f

noncomputable def getN : List Nat → Nat → Nat
  | [], _ => 0
  | a :: _, 0 => a
  | _ :: r, n + 1 => getN r n

theorem getN_eq : ∀ (l : List Nat) (i a : Nat), l[i]? = some a → getN l i = a
  | [], i, a, h => by simp at h
  | b :: r, 0, a, h => by simpa [getN] using h
  | b :: r, i + 1, a, h => by simpa [getN] using getN_eq r i a (by simpa using h)

/-- The numbers behind a known answer. -/
noncomputable def numF (r : List Nat) (c n0 : Nat) (i : Nat) : Nat := if Nat.blt i c then getN r i else n0 + (i - c)

noncomputable def renB (σ : Nat → Nat) (p : Nat × ABlk) : Option (Nat × ABlk) :=
  match p.2 with
  | .cells false cs => match mapO (renW σ 3) cs with
    | some cs' => some (σ p.1, .cells false cs')
    | none => none
  | _ => none

noncomputable def memoF (l : List MF) : Value → List Value → AH → Option (Value × AH) := fun fv args H =>
  match fv with
  | .func (.func f) ⟨[]⟩ ⟨[]⟩ =>
    if knowsF l f then
      match canon2 args H with
      | some (cargs, Hc, r) => match findF f cargs Hc l with
        | some e => match renW (numF r Hc.next H.next) 6 e.v, mapO (renB (numF r Hc.next H.next)) e.nb with
          | some v, some nb => some (v, { next := H.next + e.nb.length, bs := nb.reverse ++ H.bs })
          | _, _ => none
        | none => none
      | none => none
    else none
  | _ => none

theorem lookB_app : ∀ (bs bs0 : List (Nat × ABlk)) (i : Nat) (k : ABlk), lookB (bs ++ bs0) i = some k → (i, k) ∈ bs ∨ lookB bs0 i = some k
  | [], bs0, i, k, h => .inr h
  | (j, q) :: r, bs0, i, k, h => by
    simp only [List.cons_append, lookB] at h
    split at h
    · rename_i hb
      have : i = j := Nat.eq_of_beq_eq_true hb
      subst this
      cases h
      exact .inl List.mem_cons_self
    · rcases lookB_app r bs0 i k h with h1 | h1
      · exact .inl (List.mem_cons_of_mem _ h1)
      · exact .inr h1

theorem memoF_ok {P : Program} {call0 : Value → List Value → AH → Option (Value × AH)} (hC : CallOK P call0) {l : List MF} (hl : ∀ e ∈ l, MFok call0 e) : CallOK P (memoF l) := by
  intro fv args H vf Hf h
  unfold memoF at h
  split at h
  · rename_i f
    split at h
    · split at h
      · rename_i cargs Hc r hcan
        split at h
        · rename_i e he
          split at h
          · rename_i v1 nb hv1 hnb
            cases h
            obtain ⟨h1, h2, h3, h4⟩ := findF_spec he
            obtain ⟨v, H', r2, hcall, hres, hnd, hlen⟩ := hl e h1
            rw [h2, h3, h4] at hcall
            rw [h4] at hres hlen
            refine ⟨Nat.le_add_right _ _, fun B ρ w fv' args' hfv hargs hH hf => ?_⟩
            obtain ⟨hcn, hca, hrel⟩ := canon2_ok hcan hargs hH
            have hfree : Free (bmapC ρ r) Hc.next H'.next := fun q q1 _ => by
              unfold bmapC
              rw [List.getElem?_eq_none (by omega)]; rfl
            obtain ⟨_, s⟩ := hC _ _ _ _ _ hcall
            obtain ⟨fn, cap, n, fr, e0, i1, i2, i3⟩ := s w.heap.size (bmapC ρ r) w (.func (.func f) #[] #[]) args' (.func rfl (fun j v v' hv => by simp at hv)) hca hrel hfree
            cases e0
            cases hfv with
            | func hs _ =>
              have hc' := Array.eq_empty_of_size_eq_zero hs.symm
              subst hc'
              refine ⟨.func f, #[], n, fr, rfl, i1, i2, fun c cs => ?_⟩
              obtain ⟨ρ', w', u, st, hu, hp⟩ := i3 c cs
              -- the answer over small numbers
              unfold resW at hres
              split at hres
              · rename_i v2 r1 hcv
                split at hres
                · rename_i cb r3 hdeep
                  cases hres
                  obtain ⟨⟨s1, e1⟩, g1⟩ := canonW_ok 5 _ _ _ _ hcv
                  obtain ⟨⟨s2, e2⟩, g2⟩ := deepW_spec _ _ _ _ _ hdeep
                  have hvc : VRel (bmapC ρ' r2) e.v u := by
                    have := g1 ρ' u s2 hu
                    rwa [← e2] at this
                  have hlow : ∀ i : Nat, i < Hc.next → r2[i]? = some i := fun i hi => by
                    rw [e2, e1, List.append_assoc, List.getElem?_append_left (by simpa using hi)]
                    simp [hi]
                  let ρf : BMap := fun j => if H.next ≤ j ∧ j < H.next + e.nb.length then (r2[Hc.next + (j - H.next)]?).bind ρ' else ρ j
                  have hold : ∀ a x, ρ a = some x → ρf a = some x := fun a x hx => by
                    have : ¬ (H.next ≤ a ∧ a < H.next + e.nb.length) := fun hh => by
                      rw [hf a hh.1 hh.2] at hx; cases hx
                    simp [ρf, this, hx]
                  have hσ : ∀ i x, bmapC ρ' r2 i = some x → ρf (numF r Hc.next H.next i) = some x := by
                    intro i x hx
                    unfold bmapC at hx
                    cases hb : r2[i]? with
                    | none => rw [hb] at hx; cases hx
                    | some b =>
                      rw [hb] at hx
                      have hx' : ρ' b = some x := hx
                      by_cases hi : i < Hc.next
                      · rw [hlow i hi] at hb
                        cases hb
                        rw [hp.out i (.inl hi)] at hx'
                        unfold bmapC at hx'
                        cases ha : r[i]? with
                        | none => rw [ha] at hx'; cases hx'
                        | some a =>
                          rw [ha] at hx'
                          have hbl : Nat.blt i Hc.next = true := by simpa [Nat.blt_eq] using hi
                          simp only [numF, hbl, if_true, getN_eq _ _ _ ha]
                          exact hold a x hx'
                      · have hbl : Nat.blt i Hc.next = false := by
                          cases hb0 : Nat.blt i Hc.next with
                          | false => rfl
                          | true => exact absurd (by simpa [Nat.blt_eq] using hb0) hi
                        have hil : i < r2.length := (List.getElem?_eq_some_iff.1 hb).1
                        simp only [numF, hbl, Bool.false_eq_true, if_false, ρf]
                        rw [if_pos (by omega), show Hc.next + (H.next + (i - Hc.next) - H.next) = i by omega, hb]
                        exact hx'
                  -- the new blocks
                  have hnew : ∀ i k, (i, k) ∈ nb.reverse → ∃ (q a : Nat) (kq : ABlk) (x : Nat × Nat × Nat), i = H.next + (q - Hc.next) ∧ Hc.next ≤ q ∧ r2[q]? = some a ∧ lookB H'.bs a = some kq ∧ kq.rw = true ∧ kq.isFro = false ∧ ρ' a = some x ∧ w.heap.size ≤ x.1 ∧ ρf i = some x ∧ BRel ρf B w' x k := by
                    intro i k hk
                    obtain ⟨j, hj⟩ := List.getElem?_of_mem (List.mem_reverse.1 hk)
                    obtain ⟨m1, m2⟩ := mapO_spec hnb
                    have hjl : j < e.nb.length := by rw [← m1]; exact (List.getElem?_eq_some_iff.1 hj).1
                    obtain ⟨b, hb, hb'⟩ := m2 j e.nb[j] (List.getElem?_eq_getElem hjl)
                    rw [hj] at hb; cases hb
                    obtain ⟨q1, a, ro, cs0, ccs, q2, q3, q4, q5, q6, q7⟩ := g2 _ (List.getElem_mem hjl)
                    have hro : ro = false := q4 rfl
                    subst hro
                    unfold renB at hb'
                    rw [q5] at hb'
                    simp only [Bool.not_true] at hb'
                    split at hb'
                    · rename_i cs'' hcs
                      simp only [Option.some.injEq, Prod.mk.injEq] at hb'
                      obtain ⟨rfl, rfl⟩ := hb'
                      obtain ⟨x, hx, hr⟩ := hp.rel.blk a _ q3
                      obtain ⟨conc, ty, fz, c1, c2, c3, c4⟩ := brel_canon hr q6 (q7 ρ')
                      simp only [Bool.false_eq_true, if_false] at c3
                      have hxf : ρf (numF r Hc.next H.next e.nb[j].1) = some x := hσ _ _ (by simp [bmapC, q2, hx])
                      have hnum : numF r Hc.next H.next e.nb[j].1 = H.next + (e.nb[j].1 - Hc.next) := by
                        have hbl : Nat.blt e.nb[j].1 Hc.next = false := by
                          cases hb0 : Nat.blt e.nb[j].1 Hc.next with
                          | false => rfl
                          | true => rw [Nat.blt_eq] at hb0; omega
                        simp only [numF, hbl, Bool.false_eq_true, if_false]
                      obtain ⟨d1, d2⟩ := mapO_spec hcs
                      refine ⟨e.nb[j].1, a, _, x, hnum, q1, q2, q3, rfl, rfl, hx, c3.1, hxf, conc, ty, fz, c1, fun y z hz => ?_, ?_, by omega⟩
                      · have hy : y < ccs.length := by rw [← d1]; exact (List.getElem?_eq_some_iff.1 hz).1
                        obtain ⟨t, ht, ht'⟩ := d2 y ccs[y] (List.getElem?_eq_getElem hy)
                        rw [hz] at ht; cases ht
                        obtain ⟨u2, hu2, hr2⟩ := c2 y ccs[y] (List.getElem?_eq_getElem hy)
                        exact ⟨u2, hu2, renW_rel hσ 3 _ _ _ ht' hr2⟩
                      · simp only [Bool.false_eq_true, if_false]
                        exact ⟨Nat.le_trans hH.hB c3.1, c3.2⟩
                    · cases hb'
                  have hkeep := hH.keep hp.below
                  have hext : Ext ρ ρf := fun a x hx => hold a x hx
                  refine ⟨ρf, w', u, st, renW_rel hσ 6 _ _ _ hv1 hvc, hext, fun i hi => ?_, ⟨hkeep.hB, fun i k hk => ?_, fun i j ki kj xi xj hi hj hki hkj hxi hxj heq => ?_, hkeep.glob⟩, hp.below.mono hH.hB⟩
                  · have : ¬ (H.next ≤ i ∧ i < H.next + e.nb.length) := by
                      rcases hi with hi | hi
                      · omega
                      · have hi' : H.next + e.nb.length ≤ i := hi
                        omega
                    simp [ρf, this]
                  · rcases lookB_app _ _ _ _ hk with h5 | h5
                    · obtain ⟨_, _, _, x, _, _, _, _, _, _, _, _, t1, t2⟩ := hnew i k h5
                      exact ⟨x, t1, t2⟩
                    · obtain ⟨x, hx, hr⟩ := hkeep.blk i k h5
                      exact ⟨x, hext _ _ hx, hr.ext hext⟩
                  · have old : ∀ i k x, lookB H.bs i = some k → ρf i = some x → ρ i = some x ∧ x.1 < w.heap.size := fun i k x hk hx => by
                      obtain ⟨z, hz, hr⟩ := hH.blk i k hk
                      rw [hext _ _ hz] at hx; cases hx
                      exact ⟨hz, hr.lt⟩
                    rcases lookB_app _ _ _ _ hi with h5 | h5
                    · obtain ⟨q, a, kq, x, t1, t2, t3, t4, t5, t5f, t6, t7, t8, t9⟩ := hnew i ki h5
                      rw [hxi] at t8; cases t8
                      rcases lookB_app _ _ _ _ hj with h6 | h6
                      · obtain ⟨q', a', kq', x', t1', t2', t3', t4', t5', t5f', t6', t7', t8', t9'⟩ := hnew j kj h6
                        rw [hxj] at t8'; cases t8'
                        rcases hp.rel.inj a a' kq kq' xi xj t4 t4' t5 t5' t6 t6' heq with g | g
                        · subst g
                          have := hnd q q' a t3 t3'
                          subst this
                          exact .inl (by rw [t1, t1'])
                        · rw [t5f] at g; exact absurd g.1 (by simp)
                      · have := (old j kj xj h6 hxj).2
                        omega
                    · rcases lookB_app _ _ _ _ hj with h6 | h6
                      · obtain ⟨q', a', kq', x', t1', t2', t3', t4', t5', t5f', t6', t7', t8', t9'⟩ := hnew j kj h6
                        rw [hxj] at t8'; cases t8'
                        have := (old i ki xi h5 hxi).2
                        omega
                      · exact hH.inj i j ki kj xi xj h5 h6 hki hkj (old i ki xi h5 hxi).1 (old j kj xj h6 hxj).1 heq
                · cases hres
              · cases hres
          · cases h
        · cases h
      · cases h
    · cases h
  · cases h

end Go.Proofs.Ytjginpeoblilpaa
