/-
  What is proved: nothing of the program. This text holds one operation of a region, calls among them, and a region whose order is fixed.
-/
import Derived.Test.YtmmhoegggmmbbaaGreatDoorEvJ2
import Derived.RangeFuncRecord
import Derived.AtR
namespace Go.Proofs.YtmmhoegggmmbbaaGreatDoor
open Go.RowKit

/-- A frame's abstract state: its temporaries, and the marks among its deferred calls. -/
structure AF where
  tm : Tm
  marks : List Nat

noncomputable def MRel (ρ : BMap) : List Nat → List Deferred → Prop
  | [], [] => True
  | i :: r, d :: ds => (∃ x, ρ i = some x ∧ d = { target := .collected x.1, args := #[] }) ∧ MRel ρ r ds
  | _, _ => False

theorem MRel.ext {ρ ρ' : BMap} (he : Ext ρ ρ') : ∀ {l : List Nat} {ds : List Deferred}, MRel ρ l ds → MRel ρ' l ds
  | [], [], _ => trivial
  | [], _ :: _, h => h.elim
  | _ :: _, [], h => h.elim
  | _ :: _, _ :: _, ⟨⟨x, hx, hd⟩, h⟩ => ⟨⟨x, he _ _ hx, hd⟩, h.ext he⟩

structure FRel (ρ : BMap) (A : AF) (a : Act) : Prop where
  tm : LRel ρ A.tm.list a.tmps
  marks : MRel ρ A.marks a.defers

theorem FRel.ext {ρ ρ' : BMap} (he : Ext ρ ρ') {A : AF} {a : Act} (h : FRel ρ A a) : FRel ρ' A a := ⟨h.tm.ext he, h.marks.ext he⟩

theorem FRel.ops {ρ : BMap} {A : AF} {a : Act} (h : FRel ρ A a) : ERel ρ (opd A.tm) a.eval :=
  ERel.of h.tm (fun _ => rfl) (fun _ => rfl) (fun _ => rfl) (fun _ => rfl)

noncomputable def putT (tm : Tm) (dst : Option Tmp) (v : Value) : Tm :=
  match dst with
  | some d => tm.set d v
  | none => tm

theorem LRel.set {ρ : BMap} {l : List Value} {c : Array Value} (h : LRel ρ l c) (i : Nat) {v u : Value} (hv : VRel ρ v u) : LRel ρ (l.set i v) (c.setIfInBounds i u) := by
  have := (arel_set h.arr (i := i) hv).list
  simpa using this

theorem lrel_put {ρ : BMap} {tm : Tm} {a : Act} (h : LRel ρ tm.list a.tmps) (dst : Option Tmp) {v u : Value} (hv : VRel ρ v u) : LRel ρ (putT tm dst v).list (a.put dst u).tmps := by
  cases dst with
  | none => exact h
  | some d => simp only [putT, Tm.list_set, Act.put]; exact h.set d hv

theorem frel_put {ρ : BMap} {A : AF} {a : Act} (h : FRel ρ A a) (dst : Option Tmp) {v u : Value} (hv : VRel ρ v u) : FRel ρ { A with tm := putT A.tm dst v } (a.put dst u) :=
  ⟨lrel_put h.tm dst hv, by cases dst <;> exact h.marks⟩

/-- Guards. -/
noncomputable def aYielded (ops : Array Oper) (tm : Tm) (j : Nat) : Option Bool :=
  match ((ops[j]?).bind (·.dst)).bind (fun d => if Nat.blt d tm.n then some (tm.tr.get d) else none) with
  | some (.bool b) => some b
  | _ => none

theorem aYielded_eq {ρ : BMap} {tm : Tm} {ct : Array Value} (h : LRel ρ tm.list ct) (ops : Array Oper) (j : Nat) : aYielded ops tm j = yielded ops ct j := by
  unfold aYielded yielded
  cases hd : (ops[j]?).bind (·.dst) with
  | none => rfl
  | some d =>
    simp only [Option.bind_some]
    have hget : (if Nat.blt d tm.n then some (tm.tr.get d) else none) = tm.list[d]? := by rw [Tm.list_get]; simp only [blt_iff]
    rw [hget]
    cases hv : tm.list[d]? with
    | none =>
      have : ct.size ≤ d := by
        rw [← h.1]
        rcases Nat.lt_or_ge d tm.list.length with hl | hl
        · rw [List.getElem?_eq_getElem hl] at hv; cases hv
        · exact hl
      have hc : ct[d]? = none := Array.getElem?_eq_none this
      rw [hc]
    | some v =>
      obtain ⟨u, hu, hr⟩ := h.get hv
      rw [hu]
      cases hr <;> rfl

noncomputable def aWanted (o : Oper) (ops : Array Oper) (tm : Tm) : Bool :=
  match o.guard with
  | none => true
  | some (j, want) => match aYielded ops tm j with
    | some b => b == want
    | none => false

theorem aWanted_eq {ρ : BMap} {tm : Tm} {ct : Array Value} (h : LRel ρ tm.list ct) (o : Oper) (ops : Array Oper) : aWanted o ops tm = Region.wanted o (yielded ops ct) := by
  unfold aWanted Region.wanted
  cases o.guard with
  | none => rfl
  | some p =>
    obtain ⟨j, want⟩ := p
    simp only [aYielded_eq h]
    cases yielded ops ct j <;> rfl

/-- The frame that a call lays. -/
noncomputable def pushed (P : Program) : Next → Option Frame
  | .enter f args => some (Frame.enter P f args .normal)
  | .round l f tmps assign body => some (Frame.round l f tmps assign body .normal)
  | _ => none

/-- A function that answers calls is sound. -/
noncomputable def CallOK (P : Program) (call : Value → List Value → AH → Option (Value × AH)) : Prop :=
  ∀ fv args H v H', call fv args H = some (v, H') → H.next ≤ H'.next ∧ ∀ (B : Nat) (ρ : BMap) (w : World) (fv' : Value) (args' : Array Value), VRel ρ fv fv' → LRel ρ args args' → HRel B ρ H.bs w → Free ρ H.next H'.next →
    ∃ (fn : Fn) (cap : Array Value) (n : Next) (fr : Frame), fv' = .func fn #[] cap ∧ (invoke (.fn fn cap) args').run P w = .ok n w ∧ pushed P n = some fr ∧
      ∀ (c : Frame) (cs : List Frame), ∃ (ρ' : BMap) (w' : World) (u : Value), Steps P (lone fr (c :: cs) w) (lone (c.finish u) cs w') ∧ VRel ρ' v u ∧ Post B ρ H w H' ρ' w'

/-- Whether a method takes the dynamic value as it is. -/
noncomputable def ptrOk : TypeDesc → Bool → Bool
  | .pointer _, b => b
  | _, b => !b

theorem run_meth {P : Program} {T : TypeId → Option TI} (hT : TOk P T) {t : TypeId} {x : TI} (hx : T t = some x) {name : String} {f : FuncId} {b : Bool} (hm : x.meth name = some (f, b)) (hp : ptrOk x.desc b = true) (fuel : Nat) (v : Value) (w : World) :
    (method (fuel + 1) t v name).run P w = .ok (f, v) w := by
  obtain ⟨i, m, hi, hf, hpath, hfn⟩ := (hT t x hx).2.2.2.2.2.1 name f b hm
  have hu := hT.under hx
  have hrec : ∀ s, (receiverAt t (.val v) b s).run P w = .ok v w := by
    intro s
    unfold receiverAt
    rw [Sem.run_bind, run_underlying hu w, Result.andThen_ok]
    generalize x.desc = d at hp
    cases d <;> cases b <;> first | (simp [ptrOk] at hp; done) | rfl
  have hty : (typeInfo t).run P w = .ok i w := by simp [typeInfo, hi]
  unfold method
  simp only [Sem.run_bind, hty, Result.andThen_ok, hf, hpath, follow, Sem.run_pure, hfn, hrec]

theorem run_invokeM {P : Program} {T : TypeId → Option TI} (hT : TOk P T) {t : TypeId} {x : TI} (hx : T t = some x) {name : String} {f : FuncId} {b : Bool} (hm : x.meth name = some (f, b)) (hp : ptrOk x.desc b = true) (v : Value) (as : Array Value) (w : World) :
    (invoke (.fn (.method name) #[]) (#[.iface t v] ++ as)).run P w = (invoke (.fn (.func f) #[]) (#[v] ++ as)).run P w := by
  have h0 : (#[Value.iface t v] ++ as)[0]? = some (.iface t v) := by rw [Array.getElem?_append_left (by simp)]; rfl
  have h1 : (#[Value.iface t v] ++ as).extract 1 (#[Value.iface t v] ++ as).size = as := by
    apply Array.ext'
    simp
  obtain ⟨n, hn⟩ : ∃ n, P.types.size + Made.depth = n + 1 := ⟨P.types.size + Made.depth - 1, by
    have : 0 < Made.depth := by decide
    omega⟩
  have e1 : invoke (.fn (.method name) #[]) (#[Value.iface t v] ++ as) = callMethod (.iface t v) name as := by
    unfold invoke
    simp only [h0]
    rw [h1]
  have e2 : invoke (.fn (.func f) #[]) (#[v] ++ as) = callFunc f (#[v] ++ as) := by
    show callFunc f ((#[v] ++ as) ++ #[]) = _
    rw [Array.append_empty]
  rw [e1, e2]
  have hprog : (program : Sem Program).run P w = .ok P w := rfl
  unfold callMethod
  simp only [Sem.run_bind, hprog, Result.andThen_ok, hn, run_meth hT hx hm hp n v w]

/-- A method that is bound to what it is called of. -/
noncomputable def boundOf : Value → Option (FuncId × Value)
  | .func (.func f) ⟨[r]⟩ ⟨[]⟩ => some (f, r)
  | _ => none

/-- One operation. -/
noncomputable def evOp (T : TypeId → Option TI) (call : Value → List Value → AH → Option (Value × AH)) (o : Oper) (g : Operand → Option Value) (H : AH) : Option (Value × AH) :=
  match vOp T g o.op with
  | some v => some (v, H)
  | none =>
    match hOpB T g H o.op with
    | some r => some r
    | none =>
      match o.op with
      | .call { callee := .value f, args, .. } =>
        match g f, mapO g args.toList with
        | some fv, some as => match boundOf fv with
          | some (m, r) => call (.func (.func m) #[] #[]) (r :: as) H
          | none => call fv as H
        | _, _ => none
      | .call { callee := .invoke recv name, args, .. } =>
        match g recv, mapO g args.toList with
        | some (.iface t v), some as => match T t with
          | some x => match x.meth name with
            | some (f, b) => if ptrOk x.desc b then call (.func (.func f) #[] #[]) (v :: as) H else none
            | none => none
          | none => none
        | _, _ => none
      | _ => none

theorem vOp_notDefer {T : TypeId → Option TI} {g : Operand → Option Value} {op : Op} {v : Value} (h : vOp T g op = some v) (c : Call) : op ≠ .defer c := by
  intro e; subst e; simp [vOp] at h

section
variable {P : Program} {b : Frame} {a : Act} {k : List Item} {cs : List Frame} {w w' : World} {ops : Array Oper} {i : Nat} {rest : List Nat} {o : Oper}

theorem step_val (ho : ops[i]? = some o) (hw : Region.wanted o (yielded ops a.tmps) = true) (hd : ∀ c, o.op ≠ .defer c) {u : Value} (h : (execOp a.eval o).run P w = .ok (.value u) w') :
    step P (lone (b.atR a (.inRegion ops (i :: rest) :: k)) cs w) = .next (lone (b.atR (a.put o.dst u) (.inRegion ops rest :: k)) cs w') := by
  refine step_lone_go ?_
  rw [stepGR_op ho hw, Oper.semAt_eq _ _ _ hd]
  have hfin := Frame.finish_atR b a ops i rest k u
  simp only [ho, Option.bind_some] at hfin
  rw [← hfin]
  simp [stepG.apply, h]

theorem step_skipped (ho : ops[i]? = some o) (hw : Region.wanted o (yielded ops a.tmps) = true) (hd : ∀ c, o.op ≠ .defer c) (h : (execOp a.eval o).run P w = .ok .skip w') :
    step P (lone (b.atR a (.inRegion ops (i :: rest) :: k)) cs w) = .next (lone (b.atR (a.put o.dst undef) (.inRegion ops rest :: k)) cs w') := by
  refine step_lone_go ?_
  rw [stepGR_op ho hw, Oper.semAt_eq _ _ _ hd]
  have hfin := Frame.finish_atR b a ops i rest k undef
  simp only [ho, Option.bind_some] at hfin
  rw [← hfin]
  simp [stepG.apply, h]

theorem step_push (ho : ops[i]? = some o) (hw : Region.wanted o (yielded ops a.tmps) = true) (hd : ∀ c, o.op ≠ .defer c) {n : Next} {fr : Frame} (h : (execOp a.eval o).run P w = .ok n w') (hp : pushed P n = some fr) :
    step P (lone (b.atR a (.inRegion ops (i :: rest) :: k)) cs w) = .next (lone fr (b.atR a (.inRegion ops (i :: rest) :: k) :: cs) w') := by
  refine step_lone_go ?_
  rw [stepGR_op ho hw, Oper.semAt_eq _ _ _ hd]
  cases n <;> simp only [pushed, Option.some.injEq] at hp <;> first | cases hp | skip
  all_goals simp [stepG.apply, h, Frame.atR]
end

/-- One operation is sound. -/
theorem evOp_sound {P : Program} {T : TypeId → Option TI} (hT : TOk P T) {call : Value → List Value → AH → Option (Value × AH)} (hC : CallOK P call) {o : Oper} {g : Operand → Option Value} {H H' : AH} {v : Value} (h : evOp T call o g H = some (v, H')) :
    H.next ≤ H'.next ∧ ∀ (B : Nat) (ρ : BMap) (w : World) (b : Frame) (a : Act) (k : List Item) (cs : List Frame) (ops : Array Oper) (i : Nat) (rest : List Nat), ops[i]? = some o → Region.wanted o (yielded ops a.tmps) = true →
      ERel ρ g a.eval → HRel B ρ H.bs w → Free ρ H.next H'.next →
      ∃ ρ' w' u, Steps P (lone (b.atR a (.inRegion ops (i :: rest) :: k)) cs w) (lone (b.atR (a.put o.dst u) (.inRegion ops rest :: k)) cs w') ∧ VRel ρ' v u ∧ Post B ρ H w H' ρ' w' := by
  unfold evOp at h
  split at h
  · rename_i v' hv
    cases h
    refine ⟨Nat.le_refl _, fun B ρ w b a k cs ops i rest ho hw hA hH _ => ?_⟩
    obtain ⟨u, hu, hr⟩ := vOp_sound (P := P) hT hv hA w
    exact ⟨ρ, w, u, .one (step_val ho hw (vOp_notDefer hv) hu), hr, Post.same hH⟩
  · split at h
    · rename_i r hr
      cases h
      refine ⟨hOpB_mono hr, fun B ρ w b a k cs ops i rest ho hw hA hH hf => ?_⟩
      obtain ⟨ρ', w', n, hn, hg, hp⟩ := hOpB_sound (P := P) hT hr hA hH hf
      rcases hg with ⟨u, rfl, hu⟩ | ⟨rfl, rfl⟩
      · exact ⟨ρ', w', u, .one (step_val ho hw (hOpB_notDefer hr) hn), hu, hp⟩
      · exact ⟨ρ', w', undef, .one (step_skipped ho hw (hOpB_notDefer hr) hn), vrel_undef ρ', hp⟩
    · split at h
      · rename_i f args tys he
        split at h
        · rename_i fv as hfv has
          split at h
          · rename_i m r hbo
            have hfe : fv = .func (.func m) #[r] #[] := by
              unfold boundOf at hbo
              split at hbo
              · cases hbo; rfl
              · cases hbo
            subst hfe
            obtain ⟨hm, hc⟩ := hC _ _ _ _ _ h
            refine ⟨hm, fun B ρ w b a k cs ops i rest ho hw hA hH hf => ?_⟩
            obtain ⟨m1, m2⟩ := mapO_spec has
            have hargs : LRel ρ as (args.map a.eval) := by
              refine ⟨by simpa using m1, fun j x y hx hy => ?_⟩
              have hj : j < args.size := by
                have := (Array.getElem?_eq_some_iff.1 hy).1
                simpa using this
              obtain ⟨z, hz, hfz⟩ := m2 j args[j] (by simp [hj])
              rw [hz] at hx; cases hx
              have : y = a.eval args[j] := by simp [hj] at hy; exact hy.symm
              subst this
              exact hA _ _ hfz
            have hfr := hA _ _ hfv
            obtain ⟨r', hr', hef⟩ : ∃ r', VRel ρ r r' ∧ a.eval f = .func (.func m) #[r'] #[] := by
              generalize a.eval f = ef at hfr
              cases hfr with
              | bound h => exact ⟨_, h, rfl⟩
            have hargs2 : LRel ρ (r :: as) (#[r'] ++ args.map a.eval) := by
              refine ⟨by simp [hargs.1]; omega, fun j x y hx hy => ?_⟩
              cases j with
              | zero =>
                rw [Array.getElem?_append_left (by simp)] at hy
                cases hx
                cases hy
                exact hr'
              | succ j => exact hargs.2 j x y (by simpa using hx) (by rw [Array.getElem?_append_right (by simp)] at hy; simpa using hy)
            obtain ⟨fn, cap, n, fr, hfv', hinv, hpush, hst⟩ := hc B ρ w (.func (.func m) #[] #[]) (#[r'] ++ args.map a.eval) (.func rfl (fun j v v' hv => by simp at hv)) hargs2 hH hf
            obtain ⟨ρ', w', u, hst, hu, hp⟩ := hst (b.atR a (.inRegion ops (i :: rest) :: k)) cs
            have hd : ∀ c, o.op ≠ .defer c := by intro c; rw [he]; simp
            have hex : (execOp a.eval o).run P w = .ok n w := by
              rw [ex_call a.eval he]
              cases hfv'
              simp only [resolve, hef, Deferred.ofValue, Sem.run_bind, Sem.run_pure, Result.andThen_ok, hinv]
            refine ⟨ρ', w', u, .head (step_push ho hw hd hex hpush) ?_, hu, hp⟩
            rw [Frame.finish_atR, ho] at hst
            exact hst
          · obtain ⟨hm, hc⟩ := hC _ _ _ _ _ h
            refine ⟨hm, fun B ρ w b a k cs ops i rest ho hw hA hH hf => ?_⟩
            obtain ⟨m1, m2⟩ := mapO_spec has
            have hargs : LRel ρ as (args.map a.eval) := by
              refine ⟨by simpa using m1, fun j x y hx hy => ?_⟩
              have hj : j < args.size := by
                have := (Array.getElem?_eq_some_iff.1 hy).1
                simpa using this
              obtain ⟨z, hz, hfz⟩ := m2 j args[j] (by simp [hj])
              rw [hz] at hx; cases hx
              have : y = a.eval args[j] := by simp [hj] at hy; exact hy.symm
              subst this
              exact hA _ _ hfz
            obtain ⟨fn, cap, n, fr, hfv', hinv, hpush, hst⟩ := hc B ρ w (a.eval f) (args.map a.eval) (hA _ _ hfv) hargs hH hf
            obtain ⟨ρ', w', u, hst, hu, hp⟩ := hst (b.atR a (.inRegion ops (i :: rest) :: k)) cs
            have hd : ∀ c, o.op ≠ .defer c := by intro c; rw [he]; simp
            have hex : (execOp a.eval o).run P w = .ok n w := by
              rw [ex_call a.eval he]
              simp only [resolve, hfv', Deferred.ofValue, Sem.run_bind, Sem.run_pure, Result.andThen_ok, Array.empty_append, hinv]
            refine ⟨ρ', w', u, .head (step_push ho hw hd hex hpush) ?_, hu, hp⟩
            rw [Frame.finish_atR, ho] at hst
            exact hst
        · cases h
      · rename_i recv name args tys he
        split at h
        · rename_i t v0 as hrv has
          split at h
          · rename_i x hx
            split at h
            · rename_i f b hm0
              split at h
              · rename_i hp0
                obtain ⟨hm, hc⟩ := hC _ _ _ _ _ h
                refine ⟨hm, fun B ρ w b a k cs ops i rest ho hw hA hH hf => ?_⟩
                obtain ⟨m1, m2⟩ := mapO_spec has
                have hargs : LRel ρ as (args.map a.eval) := by
                  refine ⟨by simpa using m1, fun j x y hx hy => ?_⟩
                  have hj : j < args.size := by
                    have := (Array.getElem?_eq_some_iff.1 hy).1
                    simpa using this
                  obtain ⟨z, hz, hfz⟩ := m2 j args[j] (by simp [hj])
                  rw [hz] at hx; cases hx
                  have : y = a.eval args[j] := by simp [hj] at hy; exact hy.symm
                  subst this
                  exact hA _ _ hfz
                have hrecv := hA _ _ hrv
                generalize hre : a.eval recv = re at hrecv
                cases hrecv with
                | iface hv0 =>
                  rename_i v0'
                  have hargs2 : LRel ρ (v0 :: as) (#[v0'] ++ args.map a.eval) := by
                    refine ⟨by have := hargs.1; simp at this ⊢; omega, fun j p q hp hq => ?_⟩
                    cases j with
                    | zero =>
                      have e0 : (#[v0'] ++ args.map a.eval)[0]? = some v0' := by rw [Array.getElem?_append_left (by simp)]; rfl
                      rw [e0] at hq
                      cases hq
                      simp at hp
                      subst hp
                      exact hv0
                    | succ j =>
                      refine hargs.2 j p q (by simpa using hp) ?_
                      rw [Array.getElem?_append_right (by simp)] at hq
                      simpa using hq
                  obtain ⟨fn, cap, n, fr, hfv', hinv, hpush, hst⟩ := hc B ρ w (.func (.func f) #[] #[]) (#[v0'] ++ args.map a.eval) (.func rfl (fun j v v' hv => by simp at hv)) hargs2 hH hf
                  cases hfv'
                  obtain ⟨ρ', w', u, hst, hu, hp⟩ := hst (b.atR a (.inRegion ops (i :: rest) :: k)) cs
                  have hd : ∀ c, o.op ≠ .defer c := by intro c; rw [he]; simp
                  have hex : (execOp a.eval o).run P w = .ok n w := by
                    rw [ex_call a.eval he]
                    simp only [resolve, hre, Sem.run_bind, Sem.run_pure, Result.andThen_ok]
                    rw [run_invokeM hT hx hm0 hp0]
                    exact hinv
                  refine ⟨ρ', w', u, .head (step_push ho hw hd hex hpush) ?_, hu, hp⟩
                  rw [Frame.finish_atR, ho] at hst
                  exact hst
              · cases h
            · cases h
          · cases h
        · cases h
      · cases h

/-- The operations of a region, one behind the other. -/
noncomputable def evSeq (T : TypeId → Option TI) (call : Value → List Value → AH → Option (Value × AH)) (ops : Array Oper) : List Oper → AF → AH → Option (AF × AH)
  | [], A, H => some (A, H)
  | o :: r, A, H =>
    if aWanted o ops A.tm then
      match evOp T call o (opd A.tm) H with
      | some (v, H') => evSeq T call ops r { A with tm := putT A.tm o.dst v } H'
      | none => none
    else evSeq T call ops r { A with tm := putT A.tm o.dst undef } H

theorem evSeq_sound {P : Program} {T : TypeId → Option TI} (hT : TOk P T) {call : Value → List Value → AH → Option (Value × AH)} (hC : CallOK P call) {ops : Array Oper} : ∀ (l : List Oper) (A : AF) (H : AH) (A' : AF) (H' : AH), evSeq T call ops l A H = some (A', H') →
    H.next ≤ H'.next ∧ ∀ (B : Nat) (ρ : BMap) (w : World) (b : Frame) (a : Act) (k : List Item) (cs : List Frame) (is : List Nat), is.length = l.length → (∀ (j i : Nat), is[j]? = some i → ops[i]? = l[j]?) → FRel ρ A a → HRel B ρ H.bs w → Free ρ H.next H'.next →
      ∃ ρ' w' a', Steps P (lone (b.atR a (.inRegion ops is :: k)) cs w) (lone (b.atR a' (.inRegion ops [] :: k)) cs w') ∧ FRel ρ' A' a' ∧ Post B ρ H w H' ρ' w'
  | [], A, H, A', H', h => by
    simp only [evSeq, Option.some.injEq, Prod.mk.injEq] at h
    obtain ⟨rfl, rfl⟩ := h
    refine ⟨Nat.le_refl _, fun B ρ w b a k cs is hl _ hA hH _ => ?_⟩
    have : is = [] := List.length_eq_zero_iff.1 hl
    subst this
    exact ⟨ρ, w, a, .refl _ _, hA, Post.same hH⟩
  | o :: r, A, H, A', H', h => by
    simp only [evSeq] at h
    split at h
    · rename_i hw
      split at h
      · rename_i v H1 hv
        obtain ⟨m1, s1⟩ := evOp_sound hT hC hv
        obtain ⟨m2, s2⟩ := evSeq_sound hT hC r _ _ _ _ h
        refine ⟨Nat.le_trans m1 m2, fun B ρ w b a k cs is hl hi hA hH hf => ?_⟩
        match is, hl, hi with
        | i :: is', hl, hi =>
          have hoi : ops[i]? = some o := by simpa using hi 0 i (by simp)
          obtain ⟨ρ1, w1, u, st1, hu, p1⟩ := s1 B ρ w b a k cs ops i is' hoi (by rw [← aWanted_eq hA.tm]; exact hw) hA.ops hH (fun q h1 h2 => hf q h1 (by omega))
          obtain ⟨ρ2, w2, a2, st2, hA2, p2⟩ := s2 B ρ1 w1 b (a.put o.dst u) k cs is' (by simpa using hl) (fun j q hq => by simpa using hi (j + 1) q (by simpa using hq)) (frel_put (hA.ext p1.ext) o.dst hu) p1.rel (Free.later p1 m1 hf)
          exact ⟨ρ2, w2, a2, st1.trans st2, hA2, p1.trans p2 m1 m2⟩
      · cases h
    · rename_i hw
      obtain ⟨m2, s2⟩ := evSeq_sound hT hC r _ _ _ _ h
      refine ⟨m2, fun B ρ w b a k cs is hl hi hA hH hf => ?_⟩
      match is, hl, hi with
      | i :: is', hl, hi =>
        have hoi : ops[i]? = some o := by simpa using hi 0 i (by simp)
        have hst : step P (lone (b.atR a (.inRegion ops (i :: is') :: k)) cs w) = .next (lone (b.atR (a.put o.dst undef) (.inRegion ops is' :: k)) cs w) := by
          have := stepR_op_skip (P := P) (b := b) (a := a) (k := k) (cs := cs) (w := w) (ops := ops) (i := i) (rest := is') (by
            rw [hoi]
            simp only [Option.map_some, Option.getD_some]
            rw [← aWanted_eq hA.tm]; simpa using hw)
          rw [hoi] at this
          exact this
        obtain ⟨ρ2, w2, a2, st2, hA2, p2⟩ := s2 B ρ w b (a.put o.dst undef) k cs is' (by simpa using hl) (fun j q hq => by simpa using hi (j + 1) q (by simpa using hq)) (frel_put hA o.dst (vrel_undef ρ)) hH hf
        exact ⟨ρ2, w2, a2, .head hst st2, hA2, p2⟩

end Go.Proofs.YtmmhoegggmmbbaaGreatDoor
