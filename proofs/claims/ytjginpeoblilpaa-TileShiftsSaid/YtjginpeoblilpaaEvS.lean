/-
  What is proved: nothing of the program. This text holds: what a function answers over a small memory of its own it answers over every memory.
-/
import Derived.Test.YtjginpeoblilpaaEvQ
import Derived.WideShapes
namespace Go.Proofs.Ytjginpeoblilpaa
open Go.RowKit
set_option linter.unusedSimpArgs false
set_option linter.unusedVariables false

noncomputable def idxOf : List Nat → Nat → Option Nat
  | [], _ => none
  | b :: r, a => if Nat.beq b a then some 0 else (idxOf r a).map (· + 1)

theorem idxOf_get : ∀ {r : List Nat} {a c : Nat}, idxOf r a = some c → r[c]? = some a
  | [], a, c, h => by cases h
  | b :: r, a, c, h => by
    simp only [idxOf] at h
    split at h
    · rename_i hb
      cases h
      have := Nat.eq_of_beq_eq_true hb
      simp [this]
    · simp only [Option.map_eq_some_iff] at h
      obtain ⟨d, hd, rfl⟩ := h
      simpa using idxOf_get hd

noncomputable def idOf (r : List Nat) (a : Nat) : Nat × List Nat :=
  match idxOf r a with
  | some c => (c, r)
  | none => (r.length, r ++ [a])

theorem idOf_get (r : List Nat) (a : Nat) : (idOf r a).2[(idOf r a).1]? = some a ∧ ∃ s, (idOf r a).2 = r ++ s := by
  unfold idOf
  split
  · rename_i c hc
    exact ⟨idxOf_get hc, [], by simp⟩
  · exact ⟨by simp, [a], rfl⟩

noncomputable def canonL (g : List Nat → Value → Option (Value × List Nat)) : List Value → List Nat → Option (List Value × List Nat)
  | [], r => some ([], r)
  | v :: vs, r =>
    match g r v with
    | some (c, r1) =>
      match canonL g vs r1 with
      | some (cs, r2) => some (c :: cs, r2)
      | none => none
    | none => none

/-- A value over small numbers. -/
noncomputable def canonV : Nat → List Nat → Value → Option (Value × List Nat)
  | 0, _, _ => none
  | _ + 1, r, .slice (some ⟨a, off, none⟩) len sz => some (.slice (some ⟨(idOf r a).1, off, none⟩) len sz, (idOf r a).2)
  | _ + 1, r, .pointer (some ⟨a, off, none⟩) => some (.pointer (some ⟨(idOf r a).1, off, none⟩), (idOf r a).2)
  | _ + 1, r, .int k n => some (.int k n, r)
  | _ + 1, r, .bool b => some (.bool b, r)
  | _ + 1, r, .string s => some (.string s, r)
  | _ + 1, r, .slice none 0 0 => some (.slice none 0 0, r)
  | _ + 1, r, .slice (some ⟨a, 0, some 1⟩) len 0 => some (.slice (some ⟨(idOf r a).1, 0, some 1⟩) len 0, (idOf r a).2)
  | _ + 1, r, .func (.func f) ⟨[]⟩ ⟨[]⟩ => some (.func (.func f) #[] #[], r)
  | n + 1, r, .agg c => match canonL (canonV n) c.toList r with
    | some (cs, r') => some (.agg cs.toArray, r')
    | none => none
  | _, _, _ => none

noncomputable def bmapC (ρ : BMap) (r : List Nat) : BMap := fun i => (r[i]?).bind ρ

theorem bmapC_get {ρ : BMap} {r s : List Nat} {c a : Nat} (h : r[c]? = some a) : bmapC ρ (r ++ s) c = ρ a := by
  have hlt : c < r.length := (List.getElem?_eq_some_iff.1 h).1
  unfold bmapC
  rw [List.getElem?_append_left hlt, h]; rfl

noncomputable def CanonOK (g : List Nat → Value → Option (Value × List Nat)) : Prop := ∀ r v cv r', g r v = some (cv, r') → (∃ s, r' = r ++ s) ∧ ∀ (ρ : BMap) (u : Value) (s : List Nat), VRel ρ v u → VRel (bmapC ρ (r' ++ s)) cv u

theorem canonL_ok {g : List Nat → Value → Option (Value × List Nat)} (hg : CanonOK g) : ∀ (vs : List Value) (r : List Nat) (cs : List Value) (r' : List Nat), canonL g vs r = some (cs, r') →
    (∃ s, r' = r ++ s) ∧ cs.length = vs.length ∧ ∀ (ρ : BMap) (us : Array Value) (s : List Nat), LRel ρ vs us → LRel (bmapC ρ (r' ++ s)) cs us
  | [], r, cs, r', h => by
    simp only [canonL, Option.some.injEq, Prod.mk.injEq] at h
    obtain ⟨rfl, rfl⟩ := h
    exact ⟨⟨[], by simp⟩, rfl, fun ρ us s h => ⟨h.1, fun j v v' hv => by simp at hv⟩⟩
  | v :: vs, r, cs, r', h => by
    simp only [canonL] at h
    split at h
    · rename_i c r1 h1
      split at h
      · rename_i cs' r2 h2
        cases h
        obtain ⟨⟨s1, e1⟩, g1⟩ := hg _ _ _ _ h1
        obtain ⟨⟨s2, e2⟩, l2, g2⟩ := canonL_ok hg vs r1 cs' _ h2
        refine ⟨⟨s1 ++ s2, by rw [e2, e1, List.append_assoc]⟩, by simp [l2], fun ρ us s hl => ?_⟩
        refine ⟨by have := hl.1; simp at this ⊢; omega, fun j x y hx hy => ?_⟩
        cases j with
        | zero =>
          simp only [List.getElem?_cons_zero, Option.some.injEq] at hx
          subst hx
          have := g1 ρ y (s2 ++ s) (hl.2 0 v y (by simp) hy)
          rw [← List.append_assoc, ← e2] at this
          exact this
        | succ j =>
          have hl' : LRel ρ vs (us.toList.tail).toArray := by
            refine ⟨by have := hl.1; simp at this ⊢; omega, fun q a b ha hb => hl.2 (q + 1) a b (by simpa using ha) ?_⟩
            simpa using hb
          exact (g2 ρ _ s hl').2 j x y (by simpa using hx) (by simpa using hy)
      · cases h
    · cases h

theorem canonV_ok : ∀ n, CanonOK (canonV n)
  | 0 => by intro r v cv r' h; simp [canonV] at h
  | n + 1 => by
    intro r v cv r' h
    unfold canonV at h
    split at h
    · rename_i e; cases e
    · rename_i r _ _ _ _ a off len sz _
      cases h
      obtain ⟨h1, h2⟩ := idOf_get r a
      refine ⟨h2, fun ρ u s hv => ?_⟩
      cases hv with
      | slice hρ hl ht => exact .slice (by rw [bmapC_get h1]; exact hρ) hl ht
    · rename_i r _ _ _ _ a off _
      cases h
      obtain ⟨h1, h2⟩ := idOf_get r a
      refine ⟨h2, fun ρ u s hv => ?_⟩
      cases hv with
      | ptr hρ => exact .ptr (by rw [bmapC_get h1]; exact hρ)
    · cases h
      exact ⟨⟨[], by simp⟩, fun ρ u s hv => by cases hv; exact .int _ _⟩
    · cases h
      exact ⟨⟨[], by simp⟩, fun ρ u s hv => by cases hv; exact .bool _⟩
    · cases h
      exact ⟨⟨[], by simp⟩, fun ρ u s hv => by cases hv; exact .string _⟩
    · cases h
      exact ⟨⟨[], by simp⟩, fun ρ u s hv => by cases hv; exact .snil⟩
    · rename_i r _ _ _ _ a len _
      cases h
      obtain ⟨h1, h2⟩ := idOf_get r a
      refine ⟨h2, fun ρ u s hv => ?_⟩
      cases hv with
      | rnil => exact .rnil
      | rnone => exact .rnone
      | rsl hρ hl ht => exact .rsl (by rw [bmapC_get h1]; exact hρ) hl ht
    · cases h
      refine ⟨⟨[], by simp⟩, fun ρ u s hv => ?_⟩
      cases hv with
      | func hs hr => exact .func hs (fun j v v' hj _ => by simp at hj)
    · rename_i m c e
      cases e
      split at h
      · rename_i cs r2 h2
        cases h
        obtain ⟨g1, g2, g3⟩ := canonL_ok (canonV_ok n) _ _ _ _ h2
        refine ⟨g1, fun ρ u s hv => ?_⟩
        cases hv with
        | agg hs hr =>
          rename_i c'
          have := (g3 ρ c' s ⟨by simpa using hs, fun j a b ha hb => hr j a b (by simpa using ha) hb⟩).arr
          exact .agg this.1 this.2
      · cases h
    · cases h

/-- The blocks, read only, over small numbers. -/
noncomputable def canonB (bs : List (Nat × ABlk)) : List Nat → Nat → Option (List (Nat × ABlk))
  | [], _ => some []
  | a :: r, i =>
    match lookB bs a with
    | some (.cells _ cs) => if cs.all (closedV 3) then (canonB bs r (i + 1)).map ((i, .cells true cs) :: ·) else none
    | some (.ints g) => (canonB bs r (i + 1)).map ((i, .ints g) :: ·)
    | _ => none

theorem canonB_look : ∀ {bs : List (Nat × ABlk)} {r : List Nat} {i : Nat} {cb : List (Nat × ABlk)}, canonB bs r i = some cb → ∀ p ∈ cb, ∃ a, i ≤ p.1 ∧ r[p.1 - i]? = some a ∧ ((∃ ro cs, lookB bs a = some (.cells ro cs) ∧ p.2 = .cells true cs ∧ cs.all (closedV 3) = true) ∨ ∃ g, lookB bs a = some (.ints g) ∧ p.2 = .ints g)
  | bs, [], i, cb, h, p, hp => by
    simp only [canonB, Option.some.injEq] at h
    subst h; cases hp
  | bs, a :: r, i, cb, h, p, hp => by
    simp only [canonB] at h
    split at h
    · rename_i ro cs hl
      split at h
      · rename_i hcl
        simp only [Option.map_eq_some_iff] at h
        obtain ⟨cb', h1, rfl⟩ := h
        rcases List.mem_cons.1 hp with rfl | hp
        · exact ⟨a, Nat.le_refl _, by simp, .inl ⟨ro, cs, hl, rfl, hcl⟩⟩
        · obtain ⟨a', g1, g2, g3⟩ := canonB_look h1 p hp
          refine ⟨a', by omega, ?_, g3⟩
          rw [show p.1 - i = (p.1 - (i + 1)) + 1 by omega]
          simpa using g2
      · cases h
    · rename_i g hl
      simp only [Option.map_eq_some_iff] at h
      obtain ⟨cb', h1, rfl⟩ := h
      rcases List.mem_cons.1 hp with rfl | hp
      · exact ⟨a, Nat.le_refl _, by simp, .inr ⟨g, hl, rfl⟩⟩
      · obtain ⟨a', g1, g2, g3⟩ := canonB_look h1 p hp
        refine ⟨a', by omega, ?_, g3⟩
        rw [show p.1 - i = (p.1 - (i + 1)) + 1 by omega]
        simpa using g2
    · cases h

noncomputable def canon (args : List Value) (H : AH) : Option (List Value × AH) :=
  match canonL (canonV 3) args [] with
  | some (cs, r) => (canonB H.bs r 0).map fun cb => (cs, { next := r.length, bs := cb.reverse })
  | none => none

theorem HRel.keep {B : Nat} {ρ : BMap} {bs : List (Nat × ABlk)} {w w' : World} (h : HRel B ρ bs w) (hb : Below w.heap.size w w') : HRel B ρ bs w' :=
  ⟨Nat.le_trans h.hB hb.size, fun i k hk => let ⟨x, hx, hr⟩ := h.blk i k hk; ⟨x, hx, hr.same (hb.block _ hr.lt)⟩, h.inj, h.glob.of (Nat.le_refl _) fun k hk => hb.block k (Nat.lt_of_lt_of_le hk h.hB)⟩

/-- Arguments and memory that some world holds. -/
noncomputable def Real (args : List Value) (H : AH) : Prop := ∃ (B : Nat) (ρ : BMap) (w : World) (args' : Array Value), LRel ρ args args' ∧ HRel B ρ H.bs w

theorem vrel_len {ρ : BMap} {B : Nat} {bs : List (Nat × ABlk)} {w : World} {i n : Nat} {u : Value} (h : VRel ρ (.slice (some ⟨i, 0, some 1⟩) n 0) u) (h2 : HRel B ρ bs w) {g : Nat → Int} (hi : lookB bs i = some (.ints g)) : n ≤ 200 := by
  obtain ⟨x, hx, hb⟩ := h2.blk i _ hi
  cases h with
  | rnil => omega
  | rnone => omega
  | rsl hρ hl ht =>
    rw [hρ] at hx
    cases hx
    obtain ⟨_, _, _, _, _, _, h200⟩ := hb
    exact Nat.le_trans ht h200

theorem Real.len {args : List Value} {H : AH} (h : Real args H) {j i n : Nat} (hj : args[j]? = some (.slice (some ⟨i, 0, some 1⟩) n 0)) {g : Nat → Int} (hi : lookB H.bs i = some (.ints g)) : n ≤ 200 := by
  obtain ⟨B, ρ, w, args', h1, h2⟩ := h
  have hlt : j < args'.size := by
    rw [← h1.1]
    exact (List.getElem?_eq_some_iff.1 hj).1
  exact vrel_len (h1.2 j _ _ hj (Array.getElem?_eq_getElem hlt)) h2 hi

theorem Real.lenIn {args : List Value} {H : AH} (h : Real args H) {j q i n : Nat} {c : Array Value} (hj : args[j]? = some (.agg c)) (hq : c[q]? = some (.slice (some ⟨i, 0, some 1⟩) n 0)) {g : Nat → Int} (hi : lookB H.bs i = some (.ints g)) : n ≤ 200 := by
  obtain ⟨B, ρ, w, args', h1, h2⟩ := h
  have hlt : j < args'.size := by
    rw [← h1.1]
    exact (List.getElem?_eq_some_iff.1 hj).1
  have := h1.2 j _ _ hj (Array.getElem?_eq_getElem hlt)
  generalize args'[j] = u at this
  cases this with
  | agg hs hr =>
    rename_i c'
    have hq' : q < c'.size := by
      rw [← hs]
      exact (Array.getElem?_eq_some_iff.1 hq).1
    exact vrel_len (hr q _ _ hq (Array.getElem?_eq_getElem hq')) h2 hi

/-- What is answered over the small memory holds over the memory. -/
theorem transfer {P : Program} {call0 : Value → List Value → AH → Option (Value × AH)} (hC : CallOK P call0) {f : FuncId} {args cargs : List Value} {H Hc : AH} {v : Value} (hcan : canon args H = some (cargs, Hc))
    (h0 : Real cargs Hc → ∃ Hc', call0 (.func (.func f) #[] #[]) cargs Hc = some (v, Hc')) {m : Nat} (hv : closedV m v = true) {B : Nat} {ρ : BMap} {w : World} {args' : Array Value} (hargs : LRel ρ args args') (hH : HRel B ρ H.bs w) :
    ∃ (n : Next) (fr : Frame), (invoke (.fn (.func f) #[]) args').run P w = .ok n w ∧ pushed P n = some fr ∧
      ∀ (c : Frame) (cs : List Frame), ∃ (w' : World), Steps P (lone fr (c :: cs) w) (lone (c.finish v) cs w') ∧ VRel ρ v v ∧ HRel B ρ H.bs w' ∧ Below w.heap.size w w' := by
  unfold canon at hcan
  split at hcan
  · rename_i cs r hcl
    simp only [Option.map_eq_some_iff, Prod.mk.injEq] at hcan
    obtain ⟨cb, hcb, rfl, rfl⟩ := hcan
    obtain ⟨_, _, g3⟩ := canonL_ok (canonV_ok 3) _ _ _ _ hcl
    have hca : LRel (bmapC ρ r) cs args' := by
      have := g3 ρ args' [] hargs
      rwa [List.append_nil] at this
    have hrel : HRel w.heap.size (bmapC ρ r) cb.reverse w := by
      have one : ∀ i k, lookB cb.reverse i = some k → k.rw = false ∧ ∃ x, bmapC ρ r i = some x ∧ BRel (bmapC ρ r) w.heap.size w x k := by
        intro i k hk
        obtain ⟨a, _, q2, q0⟩ := canonB_look hcb _ (List.mem_reverse.1 (lookB_mem hk))
        have hmap : bmapC ρ r i = ρ a := by
          have := bmapC_get (ρ := ρ) (s := []) q2
          rw [List.append_nil] at this
          simpa using this
        rcases q0 with ⟨ro, cs', q3, q4, q5⟩ | ⟨g, q3, q4⟩
        rotate_left
        · simp only at q4
          subst q4
          obtain ⟨x, hx, hr⟩ := hH.blk a _ q3
          exact ⟨rfl, x, hmap.trans hx, hr.lt, hr.2⟩
        simp only at q2 q4
        subst q4
        obtain ⟨x, hx, hr⟩ := hH.blk a _ q3
        have hlt := hr.lt
        obtain ⟨ccs, ty, fz, c1, c2, c3⟩ := hr
        refine ⟨rfl, x, hmap.trans hx, ccs, ty, fz, c1, fun j y hy => ?_, hlt, c3.2⟩
        · obtain ⟨u, hu, hr'⟩ := c2 j y hy
          have hcl := List.all_eq_true.1 q5 y (List.mem_of_getElem? hy)
          have := closedV_eq 3 y u hcl hr'
          subst this
          exact ⟨u, hu, closedV_rel _ 3 u hcl⟩
      refine ⟨Nat.le_refl _, fun i k hk => (one i k hk).2, fun i j ki kj xi xj hi hj hki => ?_, hH.glob.of hH.hB fun _ _ => rfl⟩
      rw [(one i ki hi).1] at hki; cases hki
    obtain ⟨Hc', h⟩ := h0 ⟨_, _, _, _, hca, hrel⟩
    have hfree : Free (bmapC ρ r) r.length Hc'.next := fun q h1 _ => by
      unfold bmapC
      rw [List.getElem?_eq_none h1]; rfl
    obtain ⟨_, s⟩ := hC _ _ _ _ _ h
    obtain ⟨fn, cap, n, fr, e, h1, h2, h3⟩ := s w.heap.size (bmapC ρ r) w (.func (.func f) #[] #[]) args' (.func rfl (fun j v v' hv => by simp at hv)) hca hrel hfree
    cases e
    refine ⟨n, fr, h1, h2, fun c cs => ?_⟩
    obtain ⟨ρ', w', u, st, hu, hp⟩ := h3 c cs
    have := closedV_eq m v u hv hu
    subst this
    exact ⟨w', st, closedV_rel ρ m u hv, hH.keep hp.below, hp.below⟩
  · cases hcan

/-- Answers that are known. -/
structure ME where
  f : FuncId
  args : List Value
  H : AH
  v : Value

noncomputable def eqV : Nat → Value → Value → Bool
  | _ + 1, .int k n, .int k' m => sameK k k' && n == m
  | _ + 1, .bool a, .bool b => a == b
  | _ + 1, .slice none 0 0, .slice none 0 0 => true
  | _ + 1, .slice (some ⟨a, o, none⟩) l s, .slice (some ⟨b, p, none⟩) m t => Nat.beq a b && Nat.beq o p && Nat.beq l m && Nat.beq s t
  | n + 1, .agg a, .agg b => eqL (eqV n) a.toList b.toList
  | n + 1, .tuple a, .tuple b => eqL (eqV n) a.toList b.toList
  | _ + 1, .string a, .string b => bytesEq a b
  | _, _, _ => false
where
  eqL (e : Value → Value → Bool) : List Value → List Value → Bool
    | [], [] => true
    | x :: xs, y :: ys => e x y && eqL e xs ys
    | _, _ => false

theorem eqL_sound {e : Value → Value → Bool} (he : ∀ x y, e x y = true → x = y) : ∀ (l s : List Value), eqV.eqL e l s = true → l = s
  | [], [], _ => rfl
  | [], _ :: _, h => by cases h
  | _ :: _, [], h => by cases h
  | x :: xs, y :: ys, h => by
    simp only [eqV.eqL, Bool.and_eq_true] at h
    rw [he x y h.1, eqL_sound he xs ys h.2]

theorem eqV_sound : ∀ (n : Nat) (x y : Value), eqV n x y = true → x = y
  | 0, x, y, h => by simp [eqV] at h
  | n + 1, x, y, h => by
    unfold eqV at h
    split at h
    · simp only [Bool.and_eq_true] at h
      rw [sameK_eq h.1, eq_of_beq h.2]
    · rw [eq_of_beq h]
    · rfl
    · simp only [Bool.and_eq_true] at h
      obtain ⟨⟨⟨h1, h2⟩, h3⟩, h4⟩ := h
      rw [Nat.eq_of_beq_eq_true h1, Nat.eq_of_beq_eq_true h2, Nat.eq_of_beq_eq_true h3, Nat.eq_of_beq_eq_true h4]
    · rename_i a b e
      cases e
      have := eqL_sound (eqV_sound n) _ _ h
      congr 1
      exact Array.toList_inj.1 this
    · rename_i a b e
      cases e
      have := eqL_sound (eqV_sound n) _ _ h
      congr 1
      exact Array.toList_inj.1 this
    · rw [bytesEq_eq, ByteArray.toList_eq, ByteArray.toList_eq] at h
      congr 1
      exact Go.WideShapes.bytes_inj (eq_of_beq h)
    · cases h

noncomputable def eqB : List (Nat × ABlk) → List (Nat × ABlk) → Bool
  | [], [] => true
  | (i, .cells true a) :: r, (j, .cells true b) :: s => Nat.beq i j && eqV.eqL (eqV 2) a b && eqB r s
  | _, _ => false

theorem eqB_sound : ∀ (l s : List (Nat × ABlk)), eqB l s = true → l = s
  | l, s, h => by
    unfold eqB at h
    split at h
    · rfl
    · simp only [Bool.and_eq_true] at h
      rw [Nat.eq_of_beq_eq_true h.1.1, eqL_sound (eqV_sound 2) _ _ h.1.2, eqB_sound _ _ h.2]
    · cases h
termination_by l => l.length

noncomputable def memoFind (f : FuncId) (args : List Value) (H : AH) : List ME → Option ME
  | [] => none
  | e :: r => if Nat.beq e.f f && eqV.eqL (eqV 4) e.args args && Nat.beq e.H.next H.next && eqB e.H.bs H.bs then some e else memoFind f args H r

theorem memoFind_spec {f : FuncId} {args : List Value} {H : AH} : ∀ {l : List ME} {e : ME}, memoFind f args H l = some e → e ∈ l ∧ e.f = f ∧ e.args = args ∧ e.H = H
  | [], e, h => by cases h
  | x :: r, e, h => by
    simp only [memoFind] at h
    split at h
    · rename_i hc
      simp only [Bool.and_eq_true] at hc
      cases h
      refine ⟨List.mem_cons_self, Nat.eq_of_beq_eq_true hc.1.1.1, eqL_sound (eqV_sound 4) _ _ hc.1.1.2, ?_⟩
      have h1 := Nat.eq_of_beq_eq_true hc.1.2
      have h2 := eqB_sound _ _ hc.2
      cases hx : x.H with
      | mk a b => cases hH : H with
        | mk c d => rw [hx, hH] at h1 h2; simp only at h1 h2; rw [h1, h2]
    · obtain ⟨h1, h2⟩ := memoFind_spec h
      exact ⟨List.mem_cons_of_mem _ h1, h2⟩

noncomputable def knows (l : List ME) (f : FuncId) : Bool := l.any fun e => Nat.beq e.f f

noncomputable def memoH (l : List ME) : Value → List Value → AH → Option (Value × AH) := fun fv args H =>
  match fv with
  | .func (.func f) ⟨[]⟩ ⟨[]⟩ =>
    if knows l f then
      match canon args H with
      | some (cargs, Hc) => match memoFind f cargs Hc l with
        | some e => some (e.v, H)
        | none => none
      | none => none
    else none
  | _ => none

noncomputable def MEok (call0 : Value → List Value → AH → Option (Value × AH)) (e : ME) : Prop := closedV 5 e.v = true ∧ ∃ H', call0 (.func (.func e.f) #[] #[]) e.args e.H = some (e.v, H')

noncomputable def meB (call0 : Value → List Value → AH → Option (Value × AH)) (e : ME) : Bool :=
  closedV 5 e.v && match call0 (.func (.func e.f) #[] #[]) e.args e.H with
    | some (v, _) => eqV 5 v e.v
    | none => false

theorem meB_ok {call0 : Value → List Value → AH → Option (Value × AH)} {e : ME} (h : meB call0 e = true) : MEok call0 e := by
  unfold meB at h
  simp only [Bool.and_eq_true] at h
  obtain ⟨h1, h2⟩ := h
  refine ⟨h1, ?_⟩
  split at h2
  · rename_i v H' hc
    have := eqV_sound 5 _ _ h2
    subst this
    exact ⟨H', hc⟩
  · cases h2

theorem memoH_ok {P : Program} {call0 : Value → List Value → AH → Option (Value × AH)} (hC : CallOK P call0) {l : List ME} (hl : ∀ e ∈ l, MEok call0 e) : CallOK P (memoH l) := by
  intro fv args H v H' h
  unfold memoH at h
  split at h
  · rename_i f
    split at h
    · split at h
      · rename_i cargs Hc hcan
        split at h
        · rename_i e he
          cases h
          obtain ⟨h1, h2, h3, h4⟩ := memoFind_spec he
          obtain ⟨hv, Hc', hcall⟩ := hl e h1
          rw [h2, h3, h4] at hcall
          refine ⟨Nat.le_refl _, fun B ρ w fv' args' hfv hargs hH _ => ?_⟩
          obtain ⟨n, fr, g1, g2, g3⟩ := transfer hC hcan (fun _ => ⟨_, hcall⟩) hv hargs hH
          cases hfv with
          | func hs _ =>
            have hc' := Array.eq_empty_of_size_eq_zero hs.symm
            subst hc'
            refine ⟨.func f, #[], n, fr, rfl, g1, g2, fun c cs => ?_⟩
            obtain ⟨w', st, hvv, hH', hb⟩ := g3 c cs
            exact ⟨ρ, w', e.v, st, hvv, Ext.refl ρ, fun _ _ => rfl, hH', hb.mono hH.hB⟩
        · cases h
      · cases h
    · cases h
  · cases h


end Go.Proofs.Ytjginpeoblilpaa
