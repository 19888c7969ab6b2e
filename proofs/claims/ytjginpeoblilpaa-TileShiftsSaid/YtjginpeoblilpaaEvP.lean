/-
  What is proved: nothing of the program. This text holds the abstract run of code.
-/
import Derived.Test.YtjginpeoblilpaaEvO2
import Derived.RangeFuncIn
import Derived.RangeFuncNested
namespace Go.Proofs.Ytjginpeoblilpaa
open Go.RowKit
set_option linter.unusedSimpArgs false
set_option linter.unusedVariables false

inductive AX where
  | normal
  | exit (id : Nat)
  | ret

noncomputable def evLoop (f : AF → AH → Option (AX × AF × AH)) : Nat → AF → AH → Option (AX × AF × AH)
  | 0, _, _ => none
  | n + 1, A, H => match f A H with
    | some (.normal, A', H') => evLoop f n A' H'
    | some (.exit id, A', H') => some (.exit id, A', H')
    | some (.ret, A', H') => some (.ret, A', H')
    | none => none

noncomputable def evRange (call : Value → List Value → AH → Option (Value × AH)) (fn : FuncId) (f : Operand) (ps : Array Tmp) (assign body : Code) (A : AF) (H : AH) : Option (AX × AF × AH) :=
  match opd A.tm f with
  | some fv =>
    match call fv [.func (.yield (H.next + 1)) #[] #[]] { next := H.next + 1 + 1, bs := (H.next + 1, .loop .ready none fn A.tm ps.toList assign body) :: (H.next, .defd) :: H.bs } with
    | some (_, H2) =>
      match lookB H2.bs (H.next + 1) with
      | some (.loop .ready none _ _ _ _ _) => some (.normal, { A with marks := H.next :: A.marks }, { H2 with bs := dropB H2.bs (H.next + 1) })
      | some (.loop .done (some .ret) _ _ _ _ _) => some (.ret, { A with marks := H.next :: A.marks }, { H2 with bs := dropB H2.bs (H.next + 1) })
      | some (.loop .done (some (.exit id)) _ _ _ _ _) => some (.exit id, { A with marks := H.next :: A.marks }, { H2 with bs := dropB H2.bs (H.next + 1) })
      | _ => none
    | none => none
  | none => none

/-- The same in a round of the loop l. -/
noncomputable def evRangeIn (call : Value → List Value → AH → Option (Value × AH)) (fn : FuncId) (l : Nat) (f : Operand) (ps : Array Tmp) (assign body : Code) (A : AF) (H : AH) : Option (AX × AF × AH) :=
  match lookB H.bs l with
  | some (.loop _ _ _ _ _ _ _) =>
    match opd A.tm f with
    | some fv =>
      match call fv [.func (.yield H.next) #[] #[]] { next := H.next + 1, bs := (H.next, .loop .ready none fn A.tm ps.toList assign body) :: H.bs } with
      | some (_, H2) =>
        match lookB H2.bs H.next with
        | some (.loop .ready none _ _ _ _ _) => some (.normal, A, { H2 with bs := dropB H2.bs H.next })
        | some (.loop .done (some .ret) _ _ _ _ _) => some (.ret, A, { H2 with bs := dropB H2.bs H.next })
        | some (.loop .done (some (.exit id)) _ _ _ _ _) => some (.exit id, A, { H2 with bs := dropB H2.bs H.next })
        | _ => none
      | none => none
    | none => none
  | _ => none

/-- The round that a frame runs, and the loop it is a round of. -/
noncomputable def RdOK (ρ : BMap) (b : Frame) : Option Nat → Prop
  | none => b.roundOf = none
  | some l => ∃ x, ρ l = some x ∧ b.roundOf = some x.1

theorem RdOK.ext {ρ ρ' : BMap} {b : Frame} (he : Ext ρ ρ') : ∀ {rd : Option Nat}, RdOK ρ b rd → RdOK ρ' b rd
  | none, h => h
  | some _, ⟨x, h1, h2⟩ => ⟨x, he _ _ h1, h2⟩

noncomputable def evCode (T : TypeId → Option TI) (call : Value → List Value → AH → Option (Value × AH)) (lf : Nat) (fn : FuncId) (rd : Option Nat) : Code → AF → AH → Option (AX × AF × AH)
  | .skip, A, H => some (.normal, A, H)
  | .label _, A, H => some (.normal, A, H)
  | .region _ ops true, A, H => match evDrawX T call ops A H with
    | some (A', H') => some (.normal, A', H')
    | none => none
  | .region _ ops false, A, H => match evSeq T call ops ops.toList A H with
    | some (A', H') => some (.normal, A', H')
    | none => none
  | .seq x y, A, H => match evCode T call lf fn rd x A H with
    | some (.normal, A', H') => evCode T call lf fn rd y A' H'
    | some (.exit id, A', H') => some (.exit id, A', H')
    | some (.ret, A', H') => some (.ret, A', H')
    | none => none
  | .cond c x y, A, H => match opd A.tm c with
    | some (.bool true) => evCode T call lf fn rd x A H
    | some (.bool false) => evCode T call lf fn rd y A H
    | _ => none
  | .block id c, A, H => match evCode T call lf fn rd c A H with
    | some (.exit id', A', H') => if Nat.beq id' id then some (.normal, A', H') else some (.exit id', A', H')
    | some (.normal, A', H') => some (.normal, A', H')
    | some (.ret, A', H') => some (.ret, A', H')
    | none => none
  | .loop c, A, H => evLoop (evCode T call lf fn rd c) lf A H
  | .rangeFunc f ps assign body, A, H => match rd with
    | none => evRange call fn f ps assign body A H
    | some l => evRangeIn call fn l f ps assign body A H
  | .exit id, A, H => some (.exit id, A, H)
  | .ret, A, H => some (.ret, A, H)
  | .scope c, A, H => evCode T call lf fn rd c A H
  | .goto _, _, _ => none
  | .refuse _, _, _ => none

noncomputable def Arr (P : Program) (m : Machine) (b : Frame) (k : List Item) (cs : List Frame) : AX → Act → World → Prop
  | .normal, a, w => Steps P m (lone (b.atR a k) cs w)
  | .exit id, a, w => ∃ k', exitTo id k' = exitTo id k ∧ Steps P m (lone (b.atR a (.code (.exit id) :: k')) cs w)
  | .ret, a, w => ∃ k', Steps P m (lone (b.atR a (.code .ret :: k')) cs w)

theorem Arr.of {P : Program} {m m' : Machine} {b : Frame} {k : List Item} {cs : List Frame} {x : AX} {a : Act} {w : World} (h : Steps P m m') (g : Arr P m' b k cs x a w) : Arr P m b k cs x a w := by
  cases x with
  | normal => exact h.trans g
  | exit id => obtain ⟨k', e, s⟩ := g; exact ⟨k', e, h.trans s⟩
  | ret => obtain ⟨k', s⟩ := g; exact ⟨k', h.trans s⟩

theorem Arr.stay {P : Program} {m : Machine} {b : Frame} {i : Item} {k : List Item} {cs : List Frame} {x : AX} {a : Act} {w : World} (hi : i.plain = true) (hx : ∀ id, x = .exit id ∨ x = .ret → True) (hn : x ≠ .normal) (g : Arr P m b (i :: k) cs x a w) : Arr P m b k cs x a w := by
  cases x with
  | normal => exact absurd rfl hn
  | exit id =>
    obtain ⟨k', e, s⟩ := g
    refine ⟨k', ?_, s⟩
    rw [e]
    cases i <;> first | rfl | (simp [Item.plain] at hi)
  | ret => exact g

noncomputable def CodeOK (P : Program) (fn : FuncId) (rd : Option Nat) (c : Code) (g : AF → AH → Option (AX × AF × AH)) : Prop :=
  ∀ A H x A' H', g A H = some (x, A', H') → H.next ≤ H'.next ∧ ∀ (B : Nat) (ρ : BMap) (w : World) (b : Frame) (a : Act) (k : List Item) (cs : List Frame), b.fn = fn → RdOK ρ b rd → FRel ρ A a → HRel B ρ H.bs w → Free ρ H.next H'.next →
    ∃ ρ' w' a', Post B ρ H w H' ρ' w' ∧ FRel ρ' A' a' ∧ Arr P (lone (b.atR a (.code c :: k)) cs w) b k cs x a' w'

theorem loopOK {P : Program} {fn : FuncId} {rd : Option Nat} {c : Code} {g : AF → AH → Option (AX × AF × AH)} (hg : CodeOK P fn rd c g) : ∀ (n : Nat) (A : AF) (H : AH) (x : AX) (A' : AF) (H' : AH), evLoop g n A H = some (x, A', H') →
    H.next ≤ H'.next ∧ ∀ (B : Nat) (ρ : BMap) (w : World) (b : Frame) (a : Act) (k : List Item) (cs : List Frame), b.fn = fn → RdOK ρ b rd → FRel ρ A a → HRel B ρ H.bs w → Free ρ H.next H'.next →
    ∃ ρ' w' a', Post B ρ H w H' ρ' w' ∧ FRel ρ' A' a' ∧ x ≠ .normal ∧ Arr P (lone (b.atR a (.code c :: .inLoop c :: k)) cs w) b (.inLoop c :: k) cs x a' w'
  | 0, A, H, x, A', H', h => by cases h
  | n + 1, A, H, x, A', H', h => by
    simp only [evLoop] at h
    split at h
    · rename_i A1 H1 h1
      obtain ⟨m1, s1⟩ := hg _ _ _ _ _ h1
      obtain ⟨m2, s2⟩ := loopOK hg n _ _ _ _ _ h
      refine ⟨Nat.le_trans m1 m2, fun B ρ w b a k cs hb hr hA hH hf => ?_⟩
      obtain ⟨ρ1, w1, a1, p1, A1', r1⟩ := s1 B ρ w b a (.inLoop c :: k) cs hb hr hA hH (fun q x y => hf q x (by omega))
      obtain ⟨ρ2, w2, a2, p2, A2', hn, r2⟩ := s2 B ρ1 w1 b a1 k cs hb (hr.ext p1.ext) A1' p1.rel (Free.later p1 m1 hf)
      exact ⟨ρ2, w2, a2, p1.trans p2 m1 m2, A2', hn, .of (Steps.trans r1 (.one stepR_inLoop)) r2⟩
    · rename_i id A1 H1 h1
      cases h
      obtain ⟨m1, s1⟩ := hg _ _ _ _ _ h1
      refine ⟨m1, fun B ρ w b a k cs hb hr hA hH hf => ?_⟩
      obtain ⟨ρ1, w1, a1, p1, A1', r1⟩ := s1 B ρ w b a (.inLoop c :: k) cs hb hr hA hH hf
      exact ⟨ρ1, w1, a1, p1, A1', by simp, r1⟩
    · rename_i A1 H1 h1
      cases h
      obtain ⟨m1, s1⟩ := hg _ _ _ _ _ h1
      refine ⟨m1, fun B ρ w b a k cs hb hr hA hH hf => ?_⟩
      obtain ⟨ρ1, w1, a1, p1, A1', r1⟩ := s1 B ρ w b a (.inLoop c :: k) cs hb hr hA hH hf
      exact ⟨ρ1, w1, a1, p1, A1', by simp, r1⟩
    · cases h

/-- A block is let go. -/
theorem HRel.forget {B : Nat} {ρ : BMap} {bs : List (Nat × ABlk)} {w w' : World} (h : HRel B ρ bs w) {i : Nat} {k : ABlk} (hi : lookB bs i = some k) (hk : k.rw = true) {x : Nat × Nat × Nat} (hρ : ρ i = some x)
    (hsz : w.heap.size ≤ w'.heap.size) (hoth : ∀ j, j ≠ x.1 → w'.heap[j]? = w.heap[j]?) (hnf : k.isFro = false := by rfl) : HRel B ρ (dropB bs i) w' := by
  have hx1 : B ≤ x.1 := by
    obtain ⟨z, hz, hr⟩ := h.blk i k hi
    rw [hρ] at hz; cases hz
    exact hr.rw_ge hk
  have old : ∀ j kj, lookB (dropB bs i) j = some kj → j ≠ i ∧ lookB bs j = some kj := by
    intro j kj hj
    rw [lookB_dropB] at hj
    split at hj
    · cases hj
    · exact ⟨‹_›, hj⟩
  refine ⟨Nat.le_trans h.hB hsz, fun j kj hj => ?_, fun a c ka kc xa xc ha hc hka hkc hxa hxc heq => ?_, h.glob.of (Nat.le_refl _) fun k hk => hoth k (by omega)⟩
  · obtain ⟨h1, h2⟩ := old j kj hj
    obtain ⟨z, hz, hr⟩ := h.blk j kj h2
    refine ⟨z, hz, hr.same (hoth _ fun e => ?_)⟩
    cases hkj : kj.rw with
    | true =>
      rcases h.inj j i kj k z x h2 hi hkj hk hz hρ e with g | g
      · exact h1 g
      · rw [hnf] at g; exact absurd g.2.1 (by simp)
    | false => have := hr.ro_lt hkj; omega
  · exact h.inj a c ka kc xa xc (old a ka ha).2 (old c kc hc).2 hka hkc hxa hxc heq

theorem step_range {P : Program} {b : Frame} {a : Act} {k : List Item} {cs : List Frame} {w : World} {g : Operand} {ps : Array Tmp} {assign body : Code} {l : Nat} {mark : List Deferred} {w₁ : World} {fn : Fn} {cap : Array Value} {n : Next} {fr : Frame}
    (he : (Instr.enterLoop b.fn a.tmps ps assign body b.roundOf).run P w = .ok (l, mark) w₁)
    (hg : a.eval g = .func fn #[] cap) (hinv : (invoke (.fn fn cap) #[.func (.yield l) #[] #[]]).run P w₁ = .ok n w₁) (hp : pushed P n = some fr) :
    step P (lone (b.atR a (.code (.rangeFunc g ps assign body) :: k)) cs w) = .next (lone fr (b.atR { a with defers := mark ++ a.defers } (.inRangeFunc l :: k) :: cs) w₁) :=
  step_lone_go (by
    have hev := Frame.eval_atR b { a with defers := mark ++ a.defers } (.inRangeFunc l :: k)
    simp only [Frame.atR] at hev
    have hres' : Sem.run P (resolve ({ tmps := a.tmps, defers := mark ++ a.defers } : Act).eval { callee := .value g, args := #[.const (.func (.yield l) #[] #[])], argTypes := #[] } 0) w₁ = .ok { target := .fn fn cap, args := #[.func (.yield l) #[] #[]] } w₁ := by
      have hg' : ({ tmps := a.tmps, defers := mark ++ a.defers } : Act).eval g = .func fn #[] cap := by rw [← hg]; cases g <;> rfl
      have hc' : ({ tmps := a.tmps, defers := mark ++ a.defers } : Act).eval (.const (.func (.yield l) #[] #[])) = .func (.yield l) #[] #[] := rfl
      simp [resolve, hg', hc', Deferred.ofValue]
    cases n <;> simp only [pushed, Option.some.injEq] at hp <;> first | cases hp | skip
    all_goals simp [stepG, stepG.exec, Frame.atR, Sem.runT_eq, he, GStep.bare_after, stepG.apply, hev, Sem.run_bind, hres', hinv, Result.andThen])

theorem rangeOK {P : Program} {call : Value → List Value → AH → Option (Value × AH)} (hC : CallOK P call) (fn : FuncId) (f : Operand) (ps : Array Tmp) (assign body : Code) : CodeOK P fn none (.rangeFunc f ps assign body) (evRange call fn f ps assign body) := by
  intro A H x A' H' h
  unfold evRange at h
  split at h
  · rename_i fv hfv
    split at h
    · rename_i v0 H2 hcall
      obtain ⟨mc, sc⟩ := hC _ _ _ _ _ hcall
      have mc' : H.next + 1 + 1 ≤ H2.next := mc
      -- what all three ends share
      have main : ∀ (st : LoopState) (pend : Option Code) (fn0 : FuncId) (tms : Tm) (pars : List Tmp) (as bd : Code), lookB H2.bs (H.next + 1) = some (.loop st pend fn0 tms pars as bd) → st ≠ .busy →
          ∀ (B : Nat) (ρ : BMap) (w : World) (b : Frame) (a : Act) (k : List Item) (cs : List Frame), b.fn = fn → RdOK ρ b none → FRel ρ A a → HRel B ρ H.bs w → Free ρ H.next H2.next →
          ∃ ρ' w' a', Post B ρ H w { H2 with bs := dropB H2.bs (H.next + 1) } ρ' w' ∧ FRel ρ' { A with marks := H.next :: A.marks } a' ∧
            Steps P (lone (b.atR a (.code (.rangeFunc f ps assign body) :: k)) cs w) (lone (b.atR a' ((pend.map Item.code).toList ++ k)) cs w') := by
        intro st pend fn0 tms pars as bd hlook hst B ρ w b a k cs hb hr hA hH hf
        have hr' : b.roundOf = none := hr
        have f1 : Free ρ H.next (H.next + 1) := fun q x y => hf q x (by omega)
        have p1 := post_push hH f1 (.deferred (some [])) .defd 0 ⟨alloc_new w _, hH.hB⟩
        have f2 : Free (bmapAt ρ H.next w.heap.size 0) (pushB H .defd).next ((pushB H .defd).next + 1) := Free.later p1 (Nat.le_succ _) (fun q x y => hf q x (by have : q < H.next + 1 + 1 := y; omega))
        have hsz1 : (w.alloc (.deferred (some []))).heap.size = w.heap.size + 1 := by simp
        have p2 := post_push p1.rel f2 (.loop { state := .ready, pending := none, fn := b.fn, tmps := a.tmps, params := ps, assign, body, defers := w.heap.size }) (.loop .ready none fn A.tm ps.toList assign body) 0
          ⟨p1.rel.hB, a.tmps, w.heap.size, by rw [alloc_new]; simp [hb], (hA.tm.ext p1.ext).ext (ext_bmapAt (f2 _ (Nat.le_refl _) (Nat.lt_succ_self _)))⟩
        have pp := p1.trans p2 (Nat.le_succ _) (Nat.le_succ _)
        have hl : bmapAt (bmapAt ρ H.next w.heap.size 0) (H.next + 1) (w.heap.size + 1) 0 (H.next + 1) = some (w.heap.size + 1, 0, 0) := bmapAt_self _ _ _ _
        have hd : bmapAt (bmapAt ρ H.next w.heap.size 0) (H.next + 1) (w.heap.size + 1) 0 H.next = some (w.heap.size, 0, 0) := by
          have : ¬ H.next = H.next + 1 := by omega
          simp [bmapAt]
        rw [hsz1] at p2 pp
        have henter := run_enterLoop_outer (P := P) (w := w) b.fn a.tmps ps assign body
        rw [← hr'] at henter
        obtain ⟨fn', cap', n, fr, hfv', hinv, hpush, hsteps⟩ := sc B _ _ (a.eval f) #[.func (.yield (w.heap.size + 1)) #[] #[]] ((hA.ops _ _ hfv).ext pp.ext)
          ⟨rfl, fun j v v' hv hv' => by
            cases j with
            | zero => simp at hv hv'; subst hv; subst hv'; exact .yield hl
            | succ j => simp at hv⟩ pp.rel (Free.later pp (by show H.next ≤ H.next + 1 + 1; omega) hf)
        have hst1 := step_range (P := P) (b := b) (a := a) (k := k) (cs := cs) henter hfv' hinv hpush
        obtain ⟨ρ3, w3, u3, hback, _, p3⟩ := hsteps (b.atR { a with defers := [{ target := .collected w.heap.size, args := #[] }] ++ a.defers } (.inRangeFunc (w.heap.size + 1) :: k)) cs
        rw [finish_atR_inRangeFunc] at hback
        -- the record at the end
        have hl3 := p3.ext _ _ hl
        obtain ⟨y, hy, hrec⟩ := p3.rel.blk _ _ hlook
        rw [hl3] at hy; cases hy
        obtain ⟨hBl, ct, dd, hobj, _⟩ := hrec
        have hend := run_endLoop (P := P) hobj (by simpa using hst)
        have hst2 := stepR_endRangeFunc (P := P) (b := b) (a := { a with defers := [{ target := .collected w.heap.size, args := #[] }] ++ a.defers }) (k := k) (cs := cs) hend
        have hrel := p3.rel.forget hlook rfl hl3 (w' := w3.putObj (w.heap.size + 1) (.loop { state := .exhausted, pending := pend, fn := fn0, tmps := ct, params := pars.toArray, assign := as, body := bd, defers := dd })) (by simp) (fun j hj => World.putObj_heap_other hj)
        have hpost := pp.trans p3 (by show H.next ≤ H.next + 1 + 1; omega) mc'
        refine ⟨ρ3, _, { a with defers := [{ target := .collected w.heap.size, args := #[] }] ++ a.defers }, ⟨hpost.ext, hpost.out, hrel, hpost.below.trans (below_setObj w3 _ _ hBl)⟩, ⟨hA.tm.ext hpost.ext, ?_⟩, .head hst1 (hback.trans (.one hst2))⟩
        exact ⟨⟨(w.heap.size, 0, 0), p3.ext _ _ hd, rfl⟩, hA.marks.ext hpost.ext⟩
      split at h
      · rename_i hlook
        cases h
        refine ⟨by show H.next ≤ H2.next; omega, fun B ρ w b a k cs hb hr hA hH hf => ?_⟩
        obtain ⟨ρ', w', a', q1, q2, q3⟩ := main _ _ _ _ _ _ _ hlook (by simp) B ρ w b a k cs hb hr hA hH hf
        exact ⟨ρ', w', a', q1, q2, q3⟩
      · rename_i hlook
        cases h
        refine ⟨by show H.next ≤ H2.next; omega, fun B ρ w b a k cs hb hr hA hH hf => ?_⟩
        obtain ⟨ρ', w', a', q1, q2, q3⟩ := main _ _ _ _ _ _ _ hlook (by simp) B ρ w b a k cs hb hr hA hH hf
        exact ⟨ρ', w', a', q1, q2, k, q3⟩
      · rename_i hlook
        cases h
        refine ⟨by show H.next ≤ H2.next; omega, fun B ρ w b a k cs hb hr hA hH hf => ?_⟩
        obtain ⟨ρ', w', a', q1, q2, q3⟩ := main _ _ _ _ _ _ _ hlook (by simp) B ρ w b a k cs hb hr hA hH hf
        exact ⟨ρ', w', a', q1, q2, k, rfl, q3⟩
      · cases h
    · cases h
  · cases h

theorem rangeInOK {P : Program} {call : Value → List Value → AH → Option (Value × AH)} (hC : CallOK P call) (fn : FuncId) (l : Nat) (f : Operand) (ps : Array Tmp) (assign body : Code) : CodeOK P fn (some l) (.rangeFunc f ps assign body) (evRangeIn call fn l f ps assign body) := by
  intro A H x A' H' h
  unfold evRangeIn at h
  split at h
  rotate_left
  · cases h
  rename_i hl0
  split at h
  · rename_i fv hfv
    split at h
    · rename_i v0 H2 hcall
      obtain ⟨mc, sc⟩ := hC _ _ _ _ _ hcall
      have mc' : H.next + 1 ≤ H2.next := mc
      -- what all three ends share
      have main : ∀ (st : LoopState) (pend : Option Code) (fn0 : FuncId) (tms : Tm) (pars : List Tmp) (as bd : Code), lookB H2.bs H.next = some (.loop st pend fn0 tms pars as bd) → st ≠ .busy →
          ∀ (B : Nat) (ρ : BMap) (w : World) (b : Frame) (a : Act) (k : List Item) (cs : List Frame), b.fn = fn → RdOK ρ b (some l) → FRel ρ A a → HRel B ρ H.bs w → Free ρ H.next H2.next →
          ∃ ρ' w' a', Post B ρ H w { H2 with bs := dropB H2.bs H.next } ρ' w' ∧ FRel ρ' A a' ∧
            Steps P (lone (b.atR a (.code (.rangeFunc f ps assign body) :: k)) cs w) (lone (b.atR a' ((pend.map Item.code).toList ++ k)) cs w') := by
        intro st pend fn0 tms pars as bd hlook hst B ρ w b a k cs hb hr hA hH hf
        obtain ⟨x0, hx0, hro⟩ := hr
        obtain ⟨z0, hz0, _, ct0, dd0, hobj0, _⟩ := hH.blk l _ hl0
        rw [hx0] at hz0; cases hz0
        have f1 : Free ρ H.next (H.next + 1) := fun q x y => hf q x (by omega)
        have pp := post_push hH f1 (.loop { state := .ready, pending := none, fn := b.fn, tmps := a.tmps, params := ps, assign, body, defers := dd0 }) (.loop .ready none fn A.tm ps.toList assign body) 0
          ⟨hH.hB, a.tmps, dd0, by rw [alloc_new]; simp [hb], hA.tm.ext (ext_bmapAt (f1 _ (Nat.le_refl _) (Nat.lt_succ_self _)))⟩
        have hl : bmapAt ρ H.next w.heap.size 0 H.next = some (w.heap.size, 0, 0) := bmapAt_self _ _ _ _
        have henter := run_enterLoop_inner (P := P) hobj0 b.fn a.tmps ps assign body
        rw [← hro] at henter
        obtain ⟨fn', cap', n, fr, hfv', hinv, hpush, hsteps⟩ := sc B _ _ (a.eval f) #[.func (.yield w.heap.size) #[] #[]] ((hA.ops _ _ hfv).ext pp.ext)
          ⟨rfl, fun j v v' hv hv' => by
            cases j with
            | zero => simp at hv hv'; subst hv; subst hv'; exact .yield hl
            | succ j => simp at hv⟩ pp.rel (Free.later pp (by show H.next ≤ H.next + 1; omega) hf)
        have hst1 := step_range (P := P) (b := b) (a := a) (k := k) (cs := cs) henter hfv' hinv hpush
        obtain ⟨ρ3, w3, u3, hback, _, p3⟩ := hsteps (b.atR { a with defers := [] ++ a.defers } (.inRangeFunc w.heap.size :: k)) cs
        rw [finish_atR_inRangeFunc] at hback
        -- the record at the end
        have hl3 := p3.ext _ _ hl
        obtain ⟨y, hy, hrec⟩ := p3.rel.blk _ _ hlook
        rw [hl3] at hy; cases hy
        obtain ⟨hBl, ct, dd, hobj, _⟩ := hrec
        have hend := run_endLoop (P := P) hobj (by simpa using hst)
        have hst2 := stepR_endRangeFunc (P := P) (b := b) (a := { a with defers := [] ++ a.defers }) (k := k) (cs := cs) hend
        have hrel := p3.rel.forget hlook rfl hl3 (w' := w3.putObj w.heap.size (.loop { state := .exhausted, pending := pend, fn := fn0, tmps := ct, params := pars.toArray, assign := as, body := bd, defers := dd })) (by simp) (fun j hj => World.putObj_heap_other hj)
        have hpost := pp.trans p3 (by show H.next ≤ H.next + 1; omega) mc'
        refine ⟨ρ3, _, { a with defers := [] ++ a.defers }, ⟨hpost.ext, hpost.out, hrel, hpost.below.trans (below_setObj w3 _ _ hBl)⟩, ⟨hA.tm.ext hpost.ext, ?_⟩, .head hst1 (hback.trans (.one hst2))⟩
        exact hA.marks.ext hpost.ext
      split at h
      · rename_i hlook
        cases h
        refine ⟨by show H.next ≤ H2.next; omega, fun B ρ w b a k cs hb hr hA hH hf => ?_⟩
        obtain ⟨ρ', w', a', q1, q2, q3⟩ := main _ _ _ _ _ _ _ hlook (by simp) B ρ w b a k cs hb hr hA hH hf
        exact ⟨ρ', w', a', q1, q2, q3⟩
      · rename_i hlook
        cases h
        refine ⟨by show H.next ≤ H2.next; omega, fun B ρ w b a k cs hb hr hA hH hf => ?_⟩
        obtain ⟨ρ', w', a', q1, q2, q3⟩ := main _ _ _ _ _ _ _ hlook (by simp) B ρ w b a k cs hb hr hA hH hf
        exact ⟨ρ', w', a', q1, q2, k, q3⟩
      · rename_i hlook
        cases h
        refine ⟨by show H.next ≤ H2.next; omega, fun B ρ w b a k cs hb hr hA hH hf => ?_⟩
        obtain ⟨ρ', w', a', q1, q2, q3⟩ := main _ _ _ _ _ _ _ hlook (by simp) B ρ w b a k cs hb hr hA hH hf
        exact ⟨ρ', w', a', q1, q2, k, rfl, q3⟩
      · cases h
    · cases h
  · cases h

theorem stepR_scope {P : Program} {b : Frame} {a : Act} {k : List Item} {cs : List Frame} {w : World} {c : Code} : step P (lone (b.atR a (.code (.scope c) :: k)) cs w) = .next (lone (b.atR a (.code c :: .inScope c :: k)) cs w) :=
  step_lone_go (by simp [stepG, stepG.exec, Frame.atR])

theorem stepR_inScope {P : Program} {b : Frame} {a : Act} {k : List Item} {cs : List Frame} {w : World} {c : Code} : step P (lone (b.atR a (.inScope c :: k)) cs w) = .next (lone (b.atR a k) cs w) :=
  step_lone_go (by simp [stepG, stepG.exec, Frame.atR])

theorem codeOK {P : Program} {T : TypeId → Option TI} (hT : TOk P T) {call : Value → List Value → AH → Option (Value × AH)} (hC : CallOK P call) (hmix : P.follows .mixedOrders = true) (lf : Nat) (fn : FuncId) (rd : Option Nat) : ∀ (c : Code), CodeOK P fn rd c (evCode T call lf fn rd c) := by
  intro c
  induction c with
  | skip =>
    intro A H x A' H' h
    simp only [evCode, Option.some.injEq, Prod.mk.injEq] at h
    obtain ⟨rfl, rfl, rfl⟩ := h
    exact ⟨Nat.le_refl _, fun B ρ w b a k cs _ _ hA hH _ => ⟨ρ, w, a, Post.same hH, hA, Steps.one stepR_skip⟩⟩
  | label l =>
    intro A H x A' H' h
    simp only [evCode, Option.some.injEq, Prod.mk.injEq] at h
    obtain ⟨rfl, rfl, rfl⟩ := h
    exact ⟨Nat.le_refl _, fun B ρ w b a k cs _ _ hA hH _ => ⟨ρ, w, a, Post.same hH, hA, Steps.one stepR_label⟩⟩
  | region id ops draw =>
    intro A H x A' H' h
    cases draw with
    | true =>
      simp only [evCode] at h
      split at h
      · rename_i A1 H1 h1
        cases h
        obtain ⟨m, s⟩ := evDrawX_sound hT hC hmix h1
        refine ⟨m, fun B ρ w b a k cs _ _ hA hH hf => ?_⟩
        obtain ⟨ρ', w', a', st, hA', hp⟩ := s B ρ w b a k cs id hA hH hf
        exact ⟨ρ', w', a', hp, hA', Steps.trans st (.one stepR_region_end)⟩
      · cases h
    | false =>
      simp only [evCode] at h
      split at h
      · rename_i A1 H1 h1
        cases h
        obtain ⟨m, s⟩ := evSeq_sound hT hC ops.toList _ _ _ _ h1
        refine ⟨m, fun B ρ w b a k cs _ _ hA hH hf => ?_⟩
        obtain ⟨ρ', w', a', st, hA', hp⟩ := s B ρ w b a k cs (List.range ops.size) (by simp) (fun j i hj => by
          have hlt : j < ops.size := by
            have := (List.getElem?_eq_some_iff.1 hj).1
            simpa using this
          rw [List.getElem?_range hlt] at hj
          cases hj
          simp) hA hH hf
        exact ⟨ρ', w', a', hp, hA', Steps.head stepR_region (Steps.trans st (.one stepR_region_end))⟩
      · cases h
  | seq x y ihx ihy =>
    intro A H e A' H' h
    simp only [evCode] at h
    split at h
    · rename_i A1 H1 h1
      obtain ⟨m1, s1⟩ := ihx _ _ _ _ _ h1
      obtain ⟨m2, s2⟩ := ihy _ _ _ _ _ h
      refine ⟨Nat.le_trans m1 m2, fun B ρ w b a k cs hb hr hA hH hf => ?_⟩
      obtain ⟨ρ1, w1, a1, p1, A1', r1⟩ := s1 B ρ w b a (.code y :: k) cs hb hr hA hH (fun q x z => hf q x (by omega))
      obtain ⟨ρ2, w2, a2, p2, A2', r2⟩ := s2 B ρ1 w1 b a1 k cs hb (hr.ext p1.ext) A1' p1.rel (Free.later p1 m1 hf)
      exact ⟨ρ2, w2, a2, p1.trans p2 m1 m2, A2', .of (Steps.head stepR_seq r1) r2⟩
    · rename_i id A1 H1 h1
      cases h
      obtain ⟨m1, s1⟩ := ihx _ _ _ _ _ h1
      refine ⟨m1, fun B ρ w b a k cs hb hr hA hH hf => ?_⟩
      obtain ⟨ρ1, w1, a1, p1, A1', r1⟩ := s1 B ρ w b a (.code y :: k) cs hb hr hA hH hf
      exact ⟨ρ1, w1, a1, p1, A1', .of (.one stepR_seq) (r1.stay rfl (fun _ _ => trivial) (by simp))⟩
    · rename_i A1 H1 h1
      cases h
      obtain ⟨m1, s1⟩ := ihx _ _ _ _ _ h1
      refine ⟨m1, fun B ρ w b a k cs hb hr hA hH hf => ?_⟩
      obtain ⟨ρ1, w1, a1, p1, A1', r1⟩ := s1 B ρ w b a (.code y :: k) cs hb hr hA hH hf
      exact ⟨ρ1, w1, a1, p1, A1', .of (.one stepR_seq) (r1.stay rfl (fun _ _ => trivial) (by simp))⟩
    · cases h
  | cond c x y ihx ihy =>
    intro A H e A' H' h
    simp only [evCode] at h
    split at h
    · rename_i hc
      obtain ⟨m1, s1⟩ := ihx _ _ _ _ _ h
      refine ⟨m1, fun B ρ w b a k cs hb hr hA hH hf => ?_⟩
      obtain ⟨ρ1, w1, a1, p1, A1', r1⟩ := s1 B ρ w b a k cs hb hr hA hH hf
      have hev := hA.ops _ _ hc
      generalize he : a.eval c = ec at hev
      cases hev
      exact ⟨ρ1, w1, a1, p1, A1', .of (.one (stepR_cond (t := true) he)) r1⟩
    · rename_i hc
      obtain ⟨m1, s1⟩ := ihy _ _ _ _ _ h
      refine ⟨m1, fun B ρ w b a k cs hb hr hA hH hf => ?_⟩
      obtain ⟨ρ1, w1, a1, p1, A1', r1⟩ := s1 B ρ w b a k cs hb hr hA hH hf
      have hev := hA.ops _ _ hc
      generalize he : a.eval c = ec at hev
      cases hev
      exact ⟨ρ1, w1, a1, p1, A1', .of (.one (stepR_cond (t := false) he)) r1⟩
    · cases h
  | block id c ih =>
    intro A H e A' H' h
    simp only [evCode] at h
    split at h
    · rename_i id' A1 H1 h1
      obtain ⟨m1, s1⟩ := ih _ _ _ _ _ h1
      split at h
      · rename_i hid
        have : id' = id := Nat.eq_of_beq_eq_true hid
        subst this
        cases h
        refine ⟨m1, fun B ρ w b a k cs hb hr hA hH hf => ?_⟩
        obtain ⟨ρ1, w1, a1, p1, A1', k', he, r1⟩ := s1 B ρ w b a (.inBlock id' :: k) cs hb hr hA hH hf
        refine ⟨ρ1, w1, a1, p1, A1', ?_⟩
        have hx : exitTo id' k' = some k := by rw [he]; simp [exitTo]
        exact Steps.head stepR_block (Steps.trans r1 (.one (stepR_exit hx)))
      · rename_i hid
        cases h
        refine ⟨m1, fun B ρ w b a k cs hb hr hA hH hf => ?_⟩
        obtain ⟨ρ1, w1, a1, p1, A1', k', he, r1⟩ := s1 B ρ w b a (.inBlock id :: k) cs hb hr hA hH hf
        refine ⟨ρ1, w1, a1, p1, A1', k', ?_, Steps.head stepR_block r1⟩
        have hne : (id == id') = false := by
          rw [beq_eq_false_iff_ne]
          intro e; exact hid (by simp [e])
        rw [he]; simp [exitTo, hne]
    · rename_i A1 H1 h1
      cases h
      obtain ⟨m1, s1⟩ := ih _ _ _ _ _ h1
      refine ⟨m1, fun B ρ w b a k cs hb hr hA hH hf => ?_⟩
      obtain ⟨ρ1, w1, a1, p1, A1', r1⟩ := s1 B ρ w b a (.inBlock id :: k) cs hb hr hA hH hf
      exact ⟨ρ1, w1, a1, p1, A1', Steps.head stepR_block (Steps.trans r1 (.one stepR_inBlock))⟩
    · rename_i A1 H1 h1
      cases h
      obtain ⟨m1, s1⟩ := ih _ _ _ _ _ h1
      refine ⟨m1, fun B ρ w b a k cs hb hr hA hH hf => ?_⟩
      obtain ⟨ρ1, w1, a1, p1, A1', k', r1⟩ := s1 B ρ w b a (.inBlock id :: k) cs hb hr hA hH hf
      exact ⟨ρ1, w1, a1, p1, A1', k', Steps.head stepR_block r1⟩
    · cases h
  | loop c ih =>
    intro A H e A' H' h
    simp only [evCode] at h
    obtain ⟨m, s⟩ := loopOK ih lf _ _ _ _ _ h
    refine ⟨m, fun B ρ w b a k cs hb hr hA hH hf => ?_⟩
    obtain ⟨ρ1, w1, a1, p1, A1', hn, r1⟩ := s B ρ w b a k cs hb hr hA hH hf
    exact ⟨ρ1, w1, a1, p1, A1', .of (.one stepR_loop) (r1.stay rfl (fun _ _ => trivial) hn)⟩
  | rangeFunc f ps assign body _ _ =>
    intro A H e A' H' h
    simp only [evCode] at h
    cases rd with
    | none => exact rangeOK hC fn f ps assign body A H e A' H' h
    | some l => exact rangeInOK hC fn l f ps assign body A H e A' H' h
  | exit id =>
    intro A H x A' H' h
    simp only [evCode, Option.some.injEq, Prod.mk.injEq] at h
    obtain ⟨rfl, rfl, rfl⟩ := h
    exact ⟨Nat.le_refl _, fun B ρ w b a k cs _ _ hA hH _ => ⟨ρ, w, a, Post.same hH, hA, k, rfl, .refl _ _⟩⟩
  | ret =>
    intro A H x A' H' h
    simp only [evCode, Option.some.injEq, Prod.mk.injEq] at h
    obtain ⟨rfl, rfl, rfl⟩ := h
    exact ⟨Nat.le_refl _, fun B ρ w b a k cs _ _ hA hH _ => ⟨ρ, w, a, Post.same hH, hA, k, .refl _ _⟩⟩
  | scope c ih =>
    intro A H e A' H' h
    simp only [evCode] at h
    obtain ⟨m1, s1⟩ := ih _ _ _ _ _ h
    refine ⟨m1, fun B ρ w b a k cs hb hr hA hH hf => ?_⟩
    obtain ⟨ρ1, w1, a1, p1, A1', r1⟩ := s1 B ρ w b a (.inScope c :: k) cs hb hr hA hH hf
    refine ⟨ρ1, w1, a1, p1, A1', .of (.one stepR_scope) ?_⟩
    cases e with
    | normal => exact Steps.trans r1 (.one stepR_inScope)
    | exit id =>
      obtain ⟨k', he, s⟩ := r1
      exact ⟨k', by rw [he]; rfl, s⟩
    | ret => exact r1
  | goto l => intro A H x A' H' h; simp [evCode] at h
  | refuse s => intro A H x A' H' h; simp [evCode] at h

end Go.Proofs.Ytjginpeoblilpaa
