/-
  What is proved: nothing of the program. This text holds the abstract run of calls: of functions, and of a round of a loop over a function.
-/
import Derived.Test.YtjginpeoblilpaaEvP
import Derived.RangeFuncLeaves
namespace Go.Proofs.Ytjginpeoblilpaa
open Go.RowKit
set_option linter.unusedSimpArgs false
set_option linter.unusedVariables false

noncomputable def hasAddr : Nat → Value → Bool
  | 0, _ => true
  | _ + 1, .bool _ => false
  | _ + 1, .int _ _ => false
  | _ + 1, .string _ => false
  | _ + 1, .pointer none => false
  | _ + 1, .slice none _ _ => false
  | _ + 1, .nilFunc => false
  | _ + 1, .nilIface => false
  | n + 1, .agg c => c.toList.any (hasAddr n)
  | n + 1, .tuple c => c.toList.any (hasAddr n)
  | _ + 1, _ => true

noncomputable def below (n : Nat) : List (Nat × ABlk) → List (Nat × ABlk)
  | [] => []
  | (i, k) :: r => if Nat.blt i n then (i, k) :: below n r else below n r

theorem lookB_below (n : Nat) : ∀ (bs : List (Nat × ABlk)) (i : Nat) (k : ABlk), lookB (below n bs) i = some k → lookB bs i = some k
  | [], i, k, h => h
  | (j, q) :: r, i, k, h => by
    simp only [below] at h
    split at h
    · simp only [lookB] at h ⊢
      split at h
      · rename_i hb; simp [hb]; simpa using h
      · rename_i hb
        simp only [hb]
        exact lookB_below n r i k h
    · rename_i hlt
      have h1 := lookB_below n r i k h
      have hin : i < n := by
        have := lookB_mem h
        clear h h1
        induction r with
        | nil => cases this
        | cons p r ih =>
          obtain ⟨a, b⟩ := p
          simp only [below] at this
          split at this
          · rename_i ha
            rcases List.mem_cons.1 this with e | e
            · cases e; simpa [Nat.blt_eq] using ha
            · exact ih e
          · exact ih this
      have hj : ¬ j < n := by simpa [Nat.blt_eq] using hlt
      rw [lookB, beq_ne (by omega : ¬ i = j)]
      exact h1

noncomputable def cleaned (keep : Bool) (n : Nat) (H : AH) : AH := if keep then H else { H with bs := below n H.bs }

theorem cleaned_rel {B : Nat} {ρ : BMap} {w : World} {keep : Bool} {n : Nat} {H : AH} (h : HRel B ρ H.bs w) : HRel B ρ (cleaned keep n H).bs w := by
  unfold cleaned
  split
  · exact h
  · exact h.sub fun i k hk => lookB_below n _ i k hk

theorem cleaned_next {keep : Bool} {n : Nat} {H : AH} : (cleaned keep n H).next = H.next := by unfold cleaned; split <;> rfl

/-- The blocks that a value leads to, as bits. -/
noncomputable def ptrsL (f : Value → Nat → Nat) : List Value → Nat → Nat
  | [], m => m
  | v :: r, m => ptrsL f r (f v m)

noncomputable def ptrsV : Nat → Value → Nat → Nat
  | _ + 1, .pointer (some a), m => Nat.lor m (Nat.shiftLeft 1 a.block)
  | _ + 1, .slice (some a) _ _, m => Nat.lor m (Nat.shiftLeft 1 a.block)
  | _ + 1, .map (some i), m => Nat.lor m (Nat.shiftLeft 1 i)
  | n + 1, .iface _ v, m => ptrsV n v m
  | n + 1, .agg c, m => ptrsL (ptrsV n) c.toList m
  | n + 1, .tuple c, m => ptrsL (ptrsV n) c.toList m
  | _ + 1, .func (.yield i) _ _, m => Nat.lor m (Nat.shiftLeft 1 i)
  | n + 1, .func _ a c, m => ptrsL (ptrsV n) c.toList (ptrsL (ptrsV n) a.toList m)
  | _, _, m => m

noncomputable def ptrsB : ABlk → Nat → Nat
  | .cellsT _ cs _, m => ptrsL (ptrsV 6) cs m
  | .tcells _ cs _, m => ptrsL (ptrsV 6) cs m
  | .fro cs, m => ptrsL (ptrsV 6) cs m
  | .loop _ _ _ tm _ _ _, m => ptrsL (ptrsV 6) tm.list m
  | .amap _ es, m => ptrsL (ptrsV 6) (es.map (·.2)) m
  | _, m => m

noncomputable def markB (n : Nat) : List (Nat × ABlk) → Nat → Nat
  | [], m => m
  | (i, k) :: r, m => markB n r (if Nat.blt i n || Nat.testBit m i then ptrsB k m else m)

noncomputable def markF (n : Nat) (bs : List (Nat × ABlk)) : Nat → Nat → Nat
  | 0, m => m
  | f + 1, m => if Nat.beq (markB n bs m) m then m else markF n bs f (markB n bs m)

noncomputable def gcB (n m : Nat) : List (Nat × ABlk) → List (Nat × ABlk)
  | [] => []
  | (i, k) :: r => if Nat.blt i n || Nat.testBit m i then (i, k) :: gcB n m r else gcB n m r

theorem lookB_gcB (n m : Nat) : ∀ (bs : List (Nat × ABlk)) (i : Nat) (k : ABlk), lookB (gcB n m bs) i = some k → lookB bs i = some k ∧ (Nat.blt i n || Nat.testBit m i) = true
  | [], i, k, h => by cases h
  | (j, q) :: r, i, k, h => by
    simp only [gcB] at h
    split at h
    · rename_i hc
      simp only [lookB] at h ⊢
      split at h
      · rename_i hb
        rw [if_pos hb]
        have : i = j := Nat.eq_of_beq_eq_true hb
        subst this
        exact ⟨h, hc⟩
      · rename_i hb
        rw [if_neg hb]
        exact lookB_gcB n m r i k h
    · rename_i hc
      obtain ⟨h1, h2⟩ := lookB_gcB n m r i k h
      have hne : ¬ i = j := fun e => by subst e; exact hc h2
      refine ⟨?_, h2⟩
      simp only [lookB, beq_ne hne, Bool.false_eq_true, if_false]
      exact h1

/-- What a function leaves: of its new blocks those that its answer and the older blocks lead to. -/
noncomputable def cleanedG (gc keep : Bool) (n : Nat) (v : Value) (H : AH) : AH :=
  if keep then if gc then { H with bs := gcB n (markF n H.bs 8 (ptrsV 6 v 0)) H.bs } else H else { H with bs := below n H.bs }

theorem cleanedG_rel {B : Nat} {ρ : BMap} {w : World} {gc keep : Bool} {n : Nat} {v : Value} {H : AH} (h : HRel B ρ H.bs w) : HRel B ρ (cleanedG gc keep n v H).bs w := by
  unfold cleanedG
  split
  · split
    · exact h.sub fun i k hk => (lookB_gcB _ _ _ i k hk).1
    · exact h
  · exact h.sub fun i k hk => lookB_below n _ i k hk

theorem cleanedG_next {gc keep : Bool} {n : Nat} {v : Value} {H : AH} : (cleanedG gc keep n v H).next = H.next := by
  unfold cleanedG
  split
  · split <;> rfl
  · rfl

/-- The marks are come to. -/
noncomputable def takeM : List Nat → List (Nat × ABlk) → Option (List (Nat × ABlk))
  | [], bs => some bs
  | i :: r, bs => match lookB bs i with
    | some .defd => takeM r (dropB bs i)
    | _ => none

noncomputable def resV (T : TypeId → Option TI) (H : AH) (tm : Tm) : ResultVar → Option Value
  | .tmp t => some (tm.get t)
  | .cell a t => aLoad T H t (tm.get a)

noncomputable def joinR : List Value → Value
  | [v] => v
  | vs => .tuple vs.toArray

noncomputable def finF (T : TypeId → Option TI) (kp : FuncId → Bool) (f : FuncId) (fn : Func) (n : Nat) (A : AF) (H1 : AH) : Option (Value × AH) :=
  match takeM A.marks H1.bs with
  | some bs =>
    match mapO (resV T { H1 with bs } A.tm) fn.results.toList with
    | some vs => some (joinR vs, cleanedG (gcT f) (kp f || hasAddr 4 (joinR vs)) n (joinR vs) { H1 with bs })
    | none => none
  | none => none

noncomputable def evFn (T : TypeId → Option TI) (call : Value → List Value → AH → Option (Value × AH)) (lf : Nat) (kp : FuncId → Bool) (f : FuncId) (fn : Func) (args : List Value) (H : AH) : Option (Value × AH) :=
  match fn.body with
  | some c =>
    match evCode T call lf f none c ⟨Tm.of args fn.ntmps, []⟩ H with
    | some (.normal, A, H1) => finF T kp f fn H.next A H1
    | some (.ret, A, H1) => finF T kp f fn H.next A H1
    | _ => none
  | none => none

noncomputable def setArgs : Tm → List Tmp → List Value → Tm
  | tm, t :: ts, v :: vs => setArgs (tm.set t v) ts vs
  | tm, _, _ => tm

noncomputable def endOf : AX → LoopState × Option Code × Bool
  | .normal => (.ready, none, true)
  | .ret => (.done, some .ret, false)
  | .exit id => (.done, some (.exit id), false)

noncomputable def evRound (T : TypeId → Option TI) (call : Value → List Value → AH → Option (Value × AH)) (lf : Nat) (kp : FuncId → Bool) (l : Nat) (args : List Value) (H : AH) : Option (Value × AH) :=
  match lookB H.bs l with
  | some (.loop .ready _ fn tms params assign body) =>
    if Nat.beq args.length params.length then
      match evCode T call lf fn (some l) assign ⟨setArgs tms params args, []⟩ H with
      | some (.normal, A1, H1) =>
        match lookB H1.bs l with
        | some (.loop .ready p1 f1 t1 q1 a1 b1) =>
          match evCode T call lf fn (some l) body A1 { H1 with bs := setB H1.bs l (.loop .busy p1 f1 t1 q1 a1 b1) } with
          | some (x, _, H3) =>
            match lookB H3.bs l with
            | some (.loop _ _ f3 t3 q3 a3 b3) =>
              some (.bool (endOf x).2.2, cleaned (kp fn) H.next { H3 with bs := setB H3.bs l (.loop (endOf x).1 (endOf x).2.1 f3 t3 q3 a3 b3) })
            | _ => none
          | none => none
        | _ => none
      | _ => none
    else none
  | _ => none

/-- The types as a function takes them: in some, lists are made longer as shared rows. -/
noncomputable def twT (f : FuncId) (T : TypeId → Option TI) : TypeId → Option TI :=
  if frT f then fun t => match T t with
    | some z => some { z with ex := { z.ex with fr := true } }
    | none => none
  else T
theorem twT_no {f : FuncId} {T : TypeId → Option TI} (h : frT f = false) : twT f T = T := by simp only [twT, h, Bool.false_eq_true, if_false]
theorem twT_ok {P : Program} {T : TypeId → Option TI} (hT : TOk P T) (f : FuncId) : TOk P (twT f T) := by
  unfold twT
  split
  · intro t x h
    dsimp only at h
    cases e : T t with
    | none => rw [e] at h; cases h
    | some z =>
      rw [e] at h
      cases h
      exact hT t z e
  · exact hT

noncomputable def evCall (T : TypeId → Option TI) (F : FuncId → Option Func) (lf : Nat) (kp : FuncId → Bool) (hd : Value → List Value → AH → Option (Value × AH)) : Nat → Value → List Value → AH → Option (Value × AH)
  | 0, _, _, _ => none
  | n + 1, fv, args, H =>
    match hd fv args H with
    | some r => some r
    | none =>
      match fv with
      | .func (.func f) ⟨[]⟩ cap => match F f with
        | some fn => evFn (twT f T) (evCall T F lf kp hd n) lf kp f fn (args ++ cap.toList) H
        | none => none
      | .func (.yield l) _ _ => evRound T (evCall T F lf kp hd n) lf kp l args H
      | _ => none

noncomputable def FOk (P : Program) (F : FuncId → Option Func) : Prop := ∀ f fn, F f = some fn → P.funcs[f]? = some fn ∧ (fn.name == "runtime.NumGoroutine") = false

section
variable {P : Program} {T : TypeId → Option TI} {call : Value → List Value → AH → Option (Value × AH)}

theorem takeM_sound : ∀ (ms : List Nat) (bs bs' : List (Nat × ABlk)), takeM ms bs = some bs' → ∀ (B : Nat) (ρ : BMap) (w : World) (ds : List Deferred) (fr : Frame) (cs : List Frame), MRel ρ ms ds → HRel B ρ bs w → fr.mode = .returning → fr.defers = ds →
    ∃ w', Steps P (lone fr cs w) (lone { fr with defers := [] } cs w') ∧ HRel B ρ bs' w' ∧ Below B w w'
  | [], bs, bs', h, B, ρ, w, ds, fr, cs, hm, hH, hmode, hd => by
    simp only [takeM, Option.some.injEq] at h
    subst h
    cases ds with
    | nil =>
      refine ⟨w, ?_, hH, Below.refl B w⟩
      have : { fr with defers := [] } = fr := by rw [← hd]
      rw [this]
      exact .refl _ _
    | cons d r => exact hm.elim
  | i :: r, bs, bs', h, B, ρ, w, ds, fr, cs, hm, hH, hmode, hd => by
    simp only [takeM] at h
    split at h
    · rename_i hlook
      cases ds with
      | nil => exact hm.elim
      | cons d ds =>
        obtain ⟨⟨x, hx, rfl⟩, hm'⟩ := hm
        obtain ⟨y, hy, hr⟩ := hH.blk i _ hlook
        rw [hx] at hy; cases hy
        obtain ⟨hobj, hB⟩ := hr
        have htake := run_takeDeferred (P := P) hobj
        have hst := step_collected (P := P) (fr := fr) (cs := cs) (w := w) (by rw [hmode]; simp) hd rfl htake
        have hrel := hH.forget hlook rfl hx (w' := w.putObj x.1 (.deferred none)) (by simp) (fun j hj => World.putObj_heap_other hj)
        obtain ⟨w2, s2, r2, b2⟩ := takeM_sound r _ _ h B ρ _ ds { fr with defers := [] ++ ds } cs hm' hrel hmode rfl
        exact ⟨w2, .head hst s2, r2, (below_setObj w x.1 _ hB).trans b2⟩
    · cases h

theorem results_sound (hT : TOk P T) {B : Nat} {ρ : BMap} {H : AH} {w : World} {tm : Tm} {ct : Array Value} (hH : HRel B ρ H.bs w) (htm : LRel ρ tm.list ct) : ∀ (l : List ResultVar) (vs : List Value), mapO (resV T H tm) l = some vs →
    ∃ us : List Value, (l.mapM (m := Sem) fun | .tmp t => pure (ct.getD t undef) | .cell a t => do loadVar t (← asAddr (ct.getD a undef))).run P w = .ok us w ∧ LRel ρ vs us.toArray
  | [], vs, h => by
    simp only [mapO, Option.some.injEq] at h
    subst h
    exact ⟨[], by simp, rfl, fun j v v' hv => by simp at hv⟩
  | r :: l, vs, h => by
    simp only [mapO] at h
    split at h
    · rename_i v s hv hs
      cases h
      obtain ⟨us, h1, h2⟩ := results_sound hT hH htm l s hs
      have hget : ∀ t, VRel ρ (tm.get t) (ct.getD t undef) := fun t =>
        (ERel.of (ρ := ρ) htm (E := fun | .tmp t => ct.getD t undef | .const v => v | .global g => .pointer (some ⟨g, 0, none⟩) | .func f => .func (.func f) #[] #[]) (fun _ => rfl) (fun _ => rfl) (fun _ => rfl) (fun _ => rfl)) (.tmp t) _ rfl
      have hone : ∃ u, ((match r with | .tmp t => pure (ct.getD t undef) | .cell a t => do loadVar t (← asAddr (ct.getD a undef))) : Sem Value).run P w = .ok u w ∧ VRel ρ v u := by
        cases r with
        | tmp t =>
          simp only [resV, Option.some.injEq] at hv
          subst hv
          exact ⟨_, rfl, hget t⟩
        | cell a t =>
          simp only [resV] at hv
          obtain ⟨u, hu, hr⟩ := aLoad_sound (P := P) hT hv hH (hget a)
          refine ⟨u, ?_, hr⟩
          have hva := hget a
          show (do loadVar t (← asAddr (ct.getD a undef)) : Sem Value).run P w = .ok u w
          generalize ct.getD a undef = cv at hva hu
          unfold aLoad at hv
          split at hv
          · rename_i e
            rw [e] at hva
            cases hva
            simpa [Instr.loadAt, Instr.sureAddr, asAddr] using hu
          · rename_i e
            rw [e] at hva
            cases hva
            simpa [Instr.loadAt, Instr.sureAddr, asAddr] using hu
          · rename_i e
            rw [e] at hva
            cases hva
            simpa [Instr.loadAt, Instr.sureAddr, asAddr] using hu
          · cases hv
      obtain ⟨u, hu, hr⟩ := hone
      refine ⟨u :: us, ?_, ?_⟩
      · rw [List.mapM_cons]
        simp only [Sem.run_bind, hu, Result.andThen_ok, h1, Sem.run_pure]
      · refine ⟨by simpa using h2.1, fun j x y hx hy => ?_⟩
        cases j with
        | zero => simp at hx hy; subst hx; subst hy; exact hr
        | succ j => exact h2.2 j x y (by simpa using hx) (by simpa using hy)
    · cases h

theorem joinR_sound {ρ : BMap} {vs us : List Value} (h : LRel ρ vs us.toArray) : VRel ρ (joinR vs) (if h : us.toArray.size = 1 then us.toArray[0] else .tuple us.toArray) := by
  have hl : vs.length = us.length := by simpa using h.1
  match vs, us, hl, h with
  | [], [], _, h => exact .tuple rfl (fun j v v' hv => by simp at hv)
  | [v], [u], _, h => exact h.2 0 v u (by simp) (by simp)
  | v :: v2 :: vs, u :: u2 :: us, hl, h =>
    have : ¬ (u :: u2 :: us).toArray.size = 1 := by simp
    rw [dif_neg this]
    exact .tuple h.arr.1 h.arr.2

theorem evFn_sound (hT : TOk P T) (hC : CallOK P call) (hmix : P.follows .mixedOrders = true) {lf : Nat} {kp : FuncId → Bool} {f : FuncId} {fn : Func} {args : List Value} {H H' : AH} {v : Value} (hfn : P.funcs[f]? = some fn) (h : evFn T call lf kp f fn args H = some (v, H')) :
    fn.body.isSome = true ∧ H.next ≤ H'.next ∧ ∀ (B : Nat) (ρ : BMap) (w : World) (args' : Array Value), LRel ρ args args' → HRel B ρ H.bs w → Free ρ H.next H'.next →
      ∀ (cs : List Frame), ∃ ρ' w' u fr, Steps P (lone (Frame.enter P f args' .normal) cs w) (lone fr cs w') ∧ fr.fn = f ∧ fr.leaving P w' (.returned u) ∧ VRel ρ' v u ∧ Post B ρ H w H' ρ' w' := by
  unfold evFn at h
  split at h
  · rename_i c hbody
    refine ⟨by rw [hbody]; rfl, ?_⟩
    have hcode := codeOK hT hC hmix lf f none c
    -- the two ends
    have fin : ∀ (x : AX) (A1 : AF) (H1 : AH), (∀ id, x ≠ .exit id) → evCode T call lf f none c ⟨Tm.of args fn.ntmps, []⟩ H = some (x, A1, H1) → finF T kp f fn H.next A1 H1 = some (v, H') →
        H.next ≤ H'.next ∧ ∀ (B : Nat) (ρ : BMap) (w : World) (args' : Array Value), LRel ρ args args' → HRel B ρ H.bs w → Free ρ H.next H'.next →
      ∀ (cs : List Frame), ∃ ρ' w' u fr, Steps P (lone (Frame.enter P f args' .normal) cs w) (lone fr cs w') ∧ fr.fn = f ∧ fr.leaving P w' (.returned u) ∧ VRel ρ' v u ∧ Post B ρ H w H' ρ' w' := by
      intro x A1 H1 hx hev h
      obtain ⟨m, s⟩ := hcode _ _ _ _ _ hev
      unfold finF at h
      split at h
      · rename_i bs hbs
        split at h
        · rename_i vs hvs
          cases h
          rw [cleanedG_next]
          refine ⟨m, fun B ρ w args' hargs hH hf cs => ?_⟩
          let b : Frame := { fn := f, tmps := #[], todo := [], defers := [], mode := .run, kind := .normal, roundOf := none }
          let a0 : Act := { tmps := args' ++ Array.replicate (fn.ntmps - args'.size) undef, defers := [] }
          have henter : Frame.enter P f args' .normal = b.atR a0 [.code c] := by
            simp [Frame.enter, Frame.atR, hfn, hbody, b, a0]
          have hA0 : FRel ρ ⟨Tm.of args fn.ntmps, []⟩ a0 := by
            refine ⟨?_, trivial⟩
            simp only [Tm.list_of]
            refine ⟨?_, fun j p q hp hq => ?_⟩
            · simp [a0, hargs.1]
            · simp only [a0] at hq
              rw [List.getElem?_append] at hp
              rw [Array.getElem?_append] at hq
              rw [hargs.1] at hp
              split at hp
              · rename_i hlt
                rw [if_pos hlt] at hq
                exact hargs.2 j p q hp hq
              · rename_i hlt
                rw [if_neg hlt] at hq
                rw [List.getElem?_replicate] at hp
                rw [Array.getElem?_replicate] at hq
                split at hp
                · cases hp
                  split at hq
                  · cases hq; exact vrel_undef ρ
                  · omega
                · cases hp
          obtain ⟨ρ1, w1, a1, p1, hA1, harr⟩ := s B ρ w b a0 [] cs rfl rfl hA0 hH hf
          obtain ⟨todo, hret⟩ : ∃ todo, Steps P (lone (Frame.enter P f args' .normal) cs w) (lone { b.atR a1 todo with mode := .returning } cs w1) := by
            rw [henter]
            cases x with
            | normal => exact ⟨[], Steps.trans harr (.one (stepR_end rfl))⟩
            | exit id => exact absurd rfl (hx id)
            | ret => obtain ⟨k', st⟩ := harr; exact ⟨_, Steps.trans st (.one (stepR_ret rfl))⟩
          obtain ⟨w2, st2, hrel2, hb2⟩ := takeM_sound A1.marks _ _ hbs B ρ1 w1 a1.defers { b.atR a1 todo with mode := .returning } cs hA1.marks p1.rel rfl rfl
          obtain ⟨us, hus, hlr⟩ := results_sound (H := { H1 with bs := bs }) hT hrel2 hA1.tm fn.results.toList vs hvs
          have hres : (results fn a1.tmps).run P w2 = .ok (if h : us.toArray.size = 1 then us.toArray[0] else .tuple us.toArray) w2 := by
            unfold results
            rw [Sem.run_bind, Array.mapM_eq_mapM_toList, Sem.run_map]
            exact (congrArg (fun r : Result (List Value) => (r.andThen fun a w' => Result.ok a.toArray w').andThen fun a w' => (pure (if h : a.size = 1 then a[0] else .tuple a) : Sem Value).run P w') hus).trans rfl
          exact ⟨ρ1, w2, _, { ({ b.atR a1 todo with mode := .returning } : Frame) with defers := [] }, hret.trans st2, rfl, ⟨rfl, rfl, rfl, fn, hfn, hres⟩, joinR_sound hlr, p1.ext, fun q hq => p1.out q (by rw [cleanedG_next] at hq; exact hq), cleanedG_rel hrel2, p1.below.trans hb2⟩
        · cases h
      · cases h
    split at h
    · rename_i A1 H1 hev
      exact fin _ A1 H1 (fun id => by simp) hev h
    · rename_i A1 H1 hev
      exact fin _ A1 H1 (fun id => by simp) hev h
    · cases h
  · cases h

theorem setArgs_rel {ρ : BMap} : ∀ (ps : List Tmp) (tm : Tm) (vs : List Value) (ct : Array Value) (us : List Value), LRel ρ tm.list ct → LRel ρ vs us.toArray → LRel ρ (setArgs tm ps vs).list ((ps.zip us).foldl (fun t (p, v) => t.setIfInBounds p v) ct)
  | [], tm, vs, ct, us, h, _ => by simpa [setArgs] using h
  | p :: ps, tm, [], ct, us, h, hv => by
    have : us = [] := by have := hv.1; simpa using this.symm
    subst this
    simpa [setArgs] using h
  | p :: ps, tm, v :: vs, ct, us, h, hv => by
    match us, hv with
    | [], hv => have := hv.1; simp at this
    | u :: us, hv =>
      simp only [setArgs, List.zip_cons_cons, List.foldl_cons]
      refine setArgs_rel ps _ vs _ us ?_ ⟨by simpa using hv.1, fun j x y hx hy => hv.2 (j + 1) x y (by simpa using hx) (by simpa using hy)⟩
      rw [Tm.list_set]
      exact h.set p (hv.2 0 v u (by simp) (by simp))

theorem evRound_sound (hT : TOk P T) (hC : CallOK P call) (hmix : P.follows .mixedOrders = true) {lf : Nat} {kp : FuncId → Bool} {l : Nat} {args : List Value} {H H' : AH} {v : Value} (h : evRound T call lf kp l args H = some (v, H')) :
    H.next ≤ H'.next ∧ ∀ (B : Nat) (ρ : BMap) (w : World) (b o tot : Nat) (args' : Array Value), ρ l = some (b, o, tot) → LRel ρ args args' → HRel B ρ H.bs w → Free ρ H.next H'.next →
      ∃ n fr, (Instr.yield b args').run P w = .ok n w ∧ pushed P n = some fr ∧ ∀ (c : Frame) (cs : List Frame), ∃ ρ' w' u, Steps P (lone fr (c :: cs) w) (lone (c.finish u) cs w') ∧ VRel ρ' v u ∧ Post B ρ H w H' ρ' w' := by
  unfold evRound at h
  split at h
  · rename_i pend fn tms params assign body hl0
    split at h
    · rename_i hlen
      have hlen' : args.length = params.length := Nat.eq_of_beq_eq_true hlen
      split at h
      · rename_i A1 H1 hev1
        split at h
        · rename_i p1 f1 t1 q1 a1 b1 hl1
          split at h
          · rename_i x A2 H3 hev2
            split at h
            · rename_i st3 pe3 f3 t3 q3 a3 b3 hl3
              cases h
              rw [cleaned_next]
              obtain ⟨m1, s1⟩ := codeOK hT hC hmix lf fn (some l) assign _ _ _ _ _ hev1
              obtain ⟨m2, s2⟩ := codeOK hT hC hmix lf fn (some l) body _ _ _ _ _ hev2
              have m2' : H1.next ≤ H3.next := m2
              refine ⟨by show H.next ≤ H3.next; omega, fun B ρ w bl o tot args' hρ hargs hH hf => ?_⟩
              have hf' : Free ρ H.next H3.next := hf
              obtain ⟨y, hy, hBl, ct, dd, hobj, hct⟩ := hH.blk l _ hl0
              rw [hρ] at hy; cases hy
              have hyield := run_yield (P := P) (args := args') hobj (by simp [← hargs.1, hlen'])
              refine ⟨_, _, hyield, rfl, fun c cs => ?_⟩
              let bb : Frame := { fn := fn, tmps := #[], todo := [], defers := [], mode := .run, kind := .normal, roundOf := some bl }
              let a0 : Act := { tmps := (params.toArray.zip args').foldl (fun tmps (t, a) => tmps.setIfInBounds t a) ct, defers := [] }
              have hfr : Frame.round bl fn ((params.toArray.zip args').foldl (fun tmps (t, a) => tmps.setIfInBounds t a) ct) assign body .normal = bb.atR a0 [.code assign, .beginRound, .code body] := by
                simp [Frame.round, Frame.atR, bb, a0]
              have hA0 : FRel ρ ⟨setArgs tms params args, []⟩ a0 := by
                refine ⟨?_, trivial⟩
                have := setArgs_rel params tms args ct args'.toList hct (by simpa using hargs)
                have e : (params.toArray.zip args').foldl (fun tmps (t, a) => tmps.setIfInBounds t a) ct = (params.zip args'.toList).foldl (fun t (p, v) => t.setIfInBounds p v) ct := by
                  rw [← Array.foldl_toList]
                  simp
                simp only [a0]
                rw [e]; exact this
              obtain ⟨ρ1, w1, ac1, pp1, hA1, r1⟩ := s1 B ρ w bb a0 [.beginRound, .code body] (c :: cs) rfl ⟨_, hρ, rfl⟩ hA0 hH (fun q x y => hf' q x (by omega))
              have hρ1 := pp1.ext _ _ hρ
              obtain ⟨y1, hy1, hBl1, ct1, d1, hobj1, hct1⟩ := pp1.rel.blk l _ hl1
              rw [hρ1] at hy1; cases hy1
              have hbegin := run_beginRound (P := P) hobj1 rfl
              have hrel1 := pp1.rel.change (k' := .loop .busy p1 f1 t1 q1 a1 b1) hl1 rfl rfl hρ1 (w' := w1.putObj bl (.loop { state := .busy, pending := p1, fn := f1, tmps := ct1, params := q1.toArray, assign := a1, body := b1, defers := d1 })) (by simp) (fun j hj => World.putObj_heap_other hj)
                ⟨hBl1, ct1, d1, World.putObj_heap_same (Array.getElem?_eq_some_iff.1 hobj1).1, hct1⟩
              have pmid : Post B ρ1 H1 w1 { H1 with bs := setB H1.bs l (.loop .busy p1 f1 t1 q1 a1 b1) } ρ1 (w1.putObj bl (.loop { state := .busy, pending := p1, fn := f1, tmps := ct1, params := q1.toArray, assign := a1, body := b1, defers := d1 })) :=
                ⟨Ext.refl _, fun _ _ => rfl, hrel1, below_setObj w1 bl _ hBl1⟩
              have pp2 := pp1.trans pmid m1 (Nat.le_refl _)
              obtain ⟨ρ3, w3, ac3, pp3, hA3, r3⟩ := s2 B ρ1 _ bb ac1 [] (c :: cs) rfl ⟨_, hρ1, rfl⟩ hA1 hrel1 (Free.later pp2 m1 hf')
              have hρ3 := pp3.ext _ _ hρ1
              obtain ⟨y3, hy3, hBl3, ct3, d3, hobj3, hct3⟩ := pp3.rel.blk l _ hl3
              rw [hρ3] at hy3; cases hy3
              have hsofar : Steps P (lone (Frame.round bl fn ((params.toArray.zip args').foldl (fun tmps (t, a) => tmps.setIfInBounds t a) ct) assign body .normal) (c :: cs) w)
                  (lone (bb.atR ac1 [.code body]) (c :: cs) (w1.putObj bl (.loop { state := .busy, pending := p1, fn := f1, tmps := ct1, params := q1.toArray, assign := a1, body := b1, defers := d1 }))) := by
                rw [hfr]
                exact Steps.trans r1 (.one (stepR_beginRound rfl hbegin))
              have pp := pp2.trans pp3 m1 m2'
              have fin : ∀ (st : LoopState) (jump : Option Code), (st = if jump.isNone then .ready else .done) →
                  (∀ vv w', (Instr.endRound bl jump).run P w3 = .ok vv w' → Steps P (lone (bb.atR ac1 [.code body]) (c :: cs) (w1.putObj bl (.loop { state := .busy, pending := p1, fn := f1, tmps := ct1, params := q1.toArray, assign := a1, body := b1, defers := d1 }))) (lone (c.finish vv) cs w')) →
                  ∃ ρ' w' u, Steps P (lone (Frame.round bl fn ((params.toArray.zip args').foldl (fun tmps (t, a) => tmps.setIfInBounds t a) ct) assign body .normal) (c :: cs) w) (lone (c.finish u) cs w') ∧ VRel ρ' (.bool jump.isNone) u ∧
                    Post B ρ H w (cleaned (kp fn) H.next { H3 with bs := setB H3.bs l (.loop st jump f3 t3 q3 a3 b3) }) ρ' w' := by
                intro st jump hst hgo
                have hend := run_endRound (P := P) jump hobj3
                rw [← hst] at hend
                have hrel3 := pp3.rel.change (k' := .loop st jump f3 t3 q3 a3 b3) hl3 rfl rfl hρ3 (w' := w3.putObj bl (.loop { state := st, pending := jump, fn := f3, tmps := ct3, params := q3.toArray, assign := a3, body := b3, defers := d3 })) (by simp) (fun j hj => World.putObj_heap_other hj)
                  ⟨hBl3, ct3, d3, World.putObj_heap_same (Array.getElem?_eq_some_iff.1 hobj3).1, hct3⟩
                exact ⟨ρ3, _, _, hsofar.trans (hgo _ _ hend), .bool _, pp.ext, fun q hq => pp.out q (by rw [cleaned_next] at hq; exact hq), cleaned_rel hrel3, pp.below.trans (below_setObj w3 bl _ hBl3)⟩
              cases x with
              | normal => exact fin .ready none rfl (fun vv w' he => Steps.trans r3 (.one (stepR_round_end rfl rfl he)))
              | ret =>
                obtain ⟨k', st⟩ := r3
                exact fin .done (some .ret) rfl (fun vv w' he => Steps.trans st (.one (stepR_round_ret rfl rfl he)))
              | exit id =>
                obtain ⟨k', hk, st⟩ := r3
                exact fin .done (some (.exit id)) rfl (fun vv w' he => Steps.trans st (.one (stepR_round_exit rfl rfl (by rw [hk]; rfl) he)))
            · cases h
          · cases h
        · cases h
      · cases h
    · cases h
  · cases h

/-- The abstract run of calls is sound, at every depth. -/
theorem evCall_sound {F : FuncId → Option Func} (hT : TOk P T) (hF : FOk P F) (hmix : P.follows .mixedOrders = true) (lf : Nat) (kp : FuncId → Bool) {hd : Value → List Value → AH → Option (Value × AH)} (hhd : CallOK P hd) : ∀ n, CallOK P (evCall T F lf kp hd n)
  | 0 => by intro fv args H v H' h; cases h
  | n + 1 => by
    have ih := evCall_sound hT hF hmix lf kp hhd n
    intro fv args H v H' h
    simp only [evCall] at h
    split at h
    · rename_i r hr
      cases h
      exact hhd _ _ _ _ _ hr
    split at h
    · rename_i f cap _
      split at h
      · rename_i fn hfn
        obtain ⟨hf1, hf2⟩ := hF f fn hfn
        obtain ⟨hbody, m, s⟩ := evFn_sound (twT_ok hT f) ih hmix hf1 h
        refine ⟨m, fun B ρ w fv' args' hfv hargs hH hf => ?_⟩
        cases hfv with
        | func hs hr =>
          rename_i cap'
          have hall : LRel ρ (args ++ cap.toList) (args' ++ cap') := by
            refine ⟨by simp [hargs.1, hs], fun j x y hx hy => ?_⟩
            rw [List.getElem?_append] at hx
            rw [Array.getElem?_append] at hy
            rw [hargs.1] at hx
            split at hx
            · rename_i hlt
              rw [if_pos hlt] at hy
              exact hargs.2 j x y hx hy
            · rename_i hlt
              rw [if_neg hlt] at hy
              exact hr _ x y (by simpa using hx) hy
          refine ⟨.func f, cap', .enter f (args' ++ cap'), Frame.enter P f (args' ++ cap') .normal, rfl, ?_, rfl, fun c cs => by
            obtain ⟨ρ', w', u, fr, st, _, hl, hv, hp⟩ := s B ρ w _ hall hH hf (c :: cs)
            exact ⟨ρ', w', u, st.trans (.one (step_leave_returned hl)), hv, hp⟩⟩
          have hn : fn.body.isNone = false := by
            cases hb : fn.body with
            | none => rw [hb] at hbody; cases hbody
            | some c => rfl
          simp only [invoke, callFunc, Sem.run_bind, run_program, Result.andThen_ok, hf1, hf2, hn, Bool.false_eq_true, if_false, Sem.run_pure]
      · cases h
    · rename_i l first cap _
      obtain ⟨m, s⟩ := evRound_sound hT ih hmix h
      refine ⟨m, fun B ρ w fv' args' hfv hargs hH hf => ?_⟩
      cases hfv with
      | yield hρ =>
        obtain ⟨n', fr, h1, h2, h3⟩ := s B ρ w _ _ _ args' hρ hargs hH hf
        exact ⟨.yield _, #[], n', fr, rfl, by simpa [invoke] using h1, h2, h3⟩
    · cases h

/-- No answers. -/
noncomputable def noH : Value → List Value → AH → Option (Value × AH) := fun _ _ _ => none
theorem noH_ok : CallOK P noH := by intro fv args H v H' h; cases h

/-- First the one, then the other. -/
noncomputable def orH (a b : Value → List Value → AH → Option (Value × AH)) : Value → List Value → AH → Option (Value × AH) := fun fv args H =>
  match a fv args H with
  | some r => some r
  | none => b fv args H
theorem orH_ok {a b : Value → List Value → AH → Option (Value × AH)} (ha : CallOK P a) (hb : CallOK P b) : CallOK P (orH a b) := by
  intro fv args H v H' h
  unfold orH at h
  split at h
  · rename_i r hr
    cases h
    exact ha _ _ _ _ _ hr
  · exact hb _ _ _ _ _ h

/-- A call of a function, out of its abstract run. -/
theorem calls_of_ev {F : FuncId → Option Func} (hT : TOk P T) (hF : FOk P F) (hmix : P.follows .mixedOrders = true) {lf : Nat} {kp : FuncId → Bool} {hd : Value → List Value → AH → Option (Value × AH)} (hhd : CallOK P hd) {n : Nat} {f : FuncId} {fn : Func} (hfn : F f = some fn) {args : List Value} {H H' : AH} {v : Value}
    (h : evFn T (evCall T F lf kp hd n) lf kp f fn args H = some (v, H'))
    {B : Nat} {ρ : BMap} {w : World} {args' : Array Value} (hargs : LRel ρ args args') (hH : HRel B ρ H.bs w) (hf : Free ρ H.next H'.next) :
    Calls P f args' w fun e w' => ∃ ρ' u, e = .returned u ∧ VRel ρ' v u ∧ Post B ρ H w H' ρ' w' := by
  obtain ⟨hf1, hf2⟩ := hF f fn hfn
  obtain ⟨hbody, m, s⟩ := evFn_sound hT (evCall_sound hT hF hmix lf kp hhd n) hmix hf1 h
  intro cs
  obtain ⟨ρ', w', u, fr, st, h1, h2, h3, h4⟩ := s B ρ w args' hargs hH hf cs
  exact ⟨.returned u, w', fr, ⟨ρ', u, rfl, h3, h4⟩, st, h1, h2⟩

noncomputable def said (b : Bool) : Option (Value × AH) → Bool
  | some (.bool c, _) => c == b
  | _ => false

/-- A call without arguments that answers true. -/
theorem calls_closed {F : FuncId → Option Func} (hT : TOk P T) (hF : FOk P F) (hmix : P.follows .mixedOrders = true) {lf : Nat} {kp : FuncId → Bool} {hd : Value → List Value → AH → Option (Value × AH)} (hhd : CallOK P hd) {n : Nat} {f : FuncId} {fn : Func} (hfn : F f = some fn) {b : Bool}
    (h : said b (evFn T (evCall T F lf kp hd n) lf kp f fn [] ⟨0, []⟩) = true) (w : World) (hg : Globs w.heap.size w) :
    Calls P f #[] w fun e w' => e = .returned (.bool b) ∧ Below w.heap.size w w' := by
  unfold said at h
  split at h
  · rename_i c H' hev
    have hc : c = b := by simpa using h
    subst hc
    refine (calls_of_ev hT hF hmix hhd hfn hev (B := w.heap.size) (ρ := fun _ => none) (w := w) (args' := #[]) ⟨rfl, fun j x y hx => by simp at hx⟩ ⟨Nat.le_refl _, fun i k hk => (by cases hk), fun i j ki kj xi xj hi => (by cases hi), hg⟩ (fun _ _ _ => rfl)).mono ?_
    rintro e w' ⟨ρ', u, rfl, hv, hp⟩
    cases hv
    exact ⟨rfl, hp.below⟩
  · cases h
end

end Go.Proofs.Ytjginpeoblilpaa
