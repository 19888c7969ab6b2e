/-
  What is proved: nothing of the program. This text holds one operation of a region, calls among them, and a region whose order is fixed.
-/
import Derived.Test.YtjginpeoblilpaaEvJ2
import Derived.RangeFuncRecord
import Derived.AtR
namespace Go.Proofs.Ytjginpeoblilpaa
open Go.RowKit
set_option linter.unusedSimpArgs false
set_option linter.unusedVariables false

/-- A frame's abstract state: its temporaries, and the marks among its deferred calls. -/
structure AF where
  tm : Tm
  marks : List Nat

noncomputable def MRel (ρ : BMap) : List Nat → List Deferred → Prop
  | [], [] => True
  | i :: r, d :: ds => (∃ x, ρ i = some x ∧ d = { target := .collected x.1, args := #[] }) ∧ MRel ρ r ds
  | _, _ => False

theorem MRel.ext {ρ ρ' : BMap} (he : Ext ρ ρ') : ∀ {l : List Nat} {ds : List Deferred}, MRel ρ l ds → MRel ρ' l ds
  | [], [], _ => trivial
  | [], _ :: _, h => h.elim
  | _ :: _, [], h => h.elim
  | _ :: _, _ :: _, ⟨⟨x, hx, hd⟩, h⟩ => ⟨⟨x, he _ _ hx, hd⟩, h.ext he⟩

structure FRel (ρ : BMap) (A : AF) (a : Act) : Prop where
  tm : LRel ρ A.tm.list a.tmps
  marks : MRel ρ A.marks a.defers

theorem FRel.ext {ρ ρ' : BMap} (he : Ext ρ ρ') {A : AF} {a : Act} (h : FRel ρ A a) : FRel ρ' A a := ⟨h.tm.ext he, h.marks.ext he⟩

theorem FRel.ops {ρ : BMap} {A : AF} {a : Act} (h : FRel ρ A a) : ERel ρ (opd A.tm) a.eval :=
  ERel.of h.tm (fun _ => rfl) (fun _ => rfl) (fun _ => rfl) (fun _ => rfl)

noncomputable def putT (tm : Tm) (dst : Option Tmp) (v : Value) : Tm :=
  match dst with
  | some d => tm.set d v
  | none => tm

theorem LRel.set {ρ : BMap} {l : List Value} {c : Array Value} (h : LRel ρ l c) (i : Nat) {v u : Value} (hv : VRel ρ v u) : LRel ρ (l.set i v) (c.setIfInBounds i u) := by
  have := (arel_set h.arr (i := i) hv).list
  simpa using this

theorem lrel_put {ρ : BMap} {tm : Tm} {a : Act} (h : LRel ρ tm.list a.tmps) (dst : Option Tmp) {v u : Value} (hv : VRel ρ v u) : LRel ρ (putT tm dst v).list (a.put dst u).tmps := by
  cases dst with
  | none => exact h
  | some d => simp only [putT, Tm.list_set, Act.put]; exact h.set d hv

theorem frel_put {ρ : BMap} {A : AF} {a : Act} (h : FRel ρ A a) (dst : Option Tmp) {v u : Value} (hv : VRel ρ v u) : FRel ρ { A with tm := putT A.tm dst v } (a.put dst u) :=
  ⟨lrel_put h.tm dst hv, by cases dst <;> exact h.marks⟩

/-- Guards. -/
noncomputable def aYielded (ops : Array Oper) (tm : Tm) (j : Nat) : Option Bool :=
  match ((ops[j]?).bind (·.dst)).bind (fun d => if Nat.blt d tm.n then some (tm.tr.get d) else none) with
  | some (.bool b) => some b
  | _ => none

theorem aYielded_eq {ρ : BMap} {tm : Tm} {ct : Array Value} (h : LRel ρ tm.list ct) (ops : Array Oper) (j : Nat) : aYielded ops tm j = yielded ops ct j := by
  unfold aYielded yielded
  cases hd : (ops[j]?).bind (·.dst) with
  | none => rfl
  | some d =>
    simp only [Option.bind_some]
    have hget : (if Nat.blt d tm.n then some (tm.tr.get d) else none) = tm.list[d]? := by rw [Tm.list_get]; simp only [blt_iff]
    rw [hget]
    cases hv : tm.list[d]? with
    | none =>
      have : ct.size ≤ d := by
        rw [← h.1]
        rcases Nat.lt_or_ge d tm.list.length with hl | hl
        · rw [List.getElem?_eq_getElem hl] at hv; cases hv
        · exact hl
      have hc : ct[d]? = none := Array.getElem?_eq_none this
      rw [hc]
    | some v =>
      obtain ⟨u, hu, hr⟩ := h.get hv
      rw [hu]
      cases hr <;> rfl

noncomputable def aWanted (o : Oper) (ops : Array Oper) (tm : Tm) : Bool :=
  match o.guard with
  | none => true
  | some (j, want) => match aYielded ops tm j with
    | some b => b == want
    | none => false

theorem aWanted_eq {ρ : BMap} {tm : Tm} {ct : Array Value} (h : LRel ρ tm.list ct) (o : Oper) (ops : Array Oper) : aWanted o ops tm = Region.wanted o (yielded ops ct) := by
  unfold aWanted Region.wanted
  cases o.guard with
  | none => rfl
  | some p =>
    obtain ⟨j, want⟩ := p
    simp only [aYielded_eq h]
    cases yielded ops ct j <;> rfl

/-- The frame that a call lays. -/
noncomputable def pushed (P : Program) : Next → Option Frame
  | .enter f args => some (Frame.enter P f args .normal)
  | .round l f tmps assign body => some (Frame.round l f tmps assign body .normal)
  | _ => none

/-- A function that answers calls is sound. -/
noncomputable def CallOK (P : Program) (call : Value → List Value → AH → Option (Value × AH)) : Prop :=
  ∀ fv args H v H', call fv args H = some (v, H') → H.next ≤ H'.next ∧ ∀ (B : Nat) (ρ : BMap) (w : World) (fv' : Value) (args' : Array Value), VRel ρ fv fv' → LRel ρ args args' → HRel B ρ H.bs w → Free ρ H.next H'.next →
    ∃ (fn : Fn) (cap : Array Value) (n : Next) (fr : Frame), fv' = .func fn #[] cap ∧ (invoke (.fn fn cap) args').run P w = .ok n w ∧ pushed P n = some fr ∧
      ∀ (c : Frame) (cs : List Frame), ∃ (ρ' : BMap) (w' : World) (u : Value), Steps P (lone fr (c :: cs) w) (lone (c.finish u) cs w') ∧ VRel ρ' v u ∧ Post B ρ H w H' ρ' w'

/-- Whether a method takes the dynamic value as it is. -/
noncomputable def ptrOk : TypeDesc → Bool → Bool
  | .pointer _, b => b
  | _, b => !b

theorem run_meth {P : Program} {T : TypeId → Option TI} (hT : TOk P T) {t : TypeId} {x : TI} (hx : T t = some x) {name : String} {f : FuncId} {b : Bool} (hm : x.meth name = some (f, b)) (hp : ptrOk x.desc b = true) (fuel : Nat) (v : Value) (w : World) :
    (method (fuel + 1) t v name).run P w = .ok (f, v) w := by
  obtain ⟨i, m, hi, hf, hpath, hfn⟩ := (hT t x hx).2.2.2.2.2.1 name f b hm
  have hu := hT.under hx
  have hrec : ∀ s, (receiverAt t (.val v) b s).run P w = .ok v w := by
    intro s
    unfold receiverAt
    rw [Sem.run_bind, run_underlying hu w, Result.andThen_ok]
    generalize x.desc = d at hp
    cases d <;> cases b <;> first | (simp [ptrOk] at hp; done) | rfl
  have hty : (typeInfo t).run P w = .ok i w := by simp [typeInfo, hi]
  unfold method
  simp only [Sem.run_bind, hty, Result.andThen_ok, hf, hpath, follow, Sem.run_pure, hfn, hrec]

/-! ### What a method is called of: by embedded fields, and through pointers. -/
inductive APl where
  | val (v : Value)
  | var (p : Value)

noncomputable def PlRel (ρ : BMap) : APl → Place → Prop
  | .val v, .val u => VRel ρ v u
  | .var p, .var a => VRel ρ p (.pointer (some a))
  | _, _ => False

noncomputable def aLoadX (T : TypeId → Option TI) (H : AH) (t : TypeId) (p : Value) : Option Value :=
  match aLoad T H t p with
  | some v => some v
  | none => aLoadT T H t p

theorem aLoadX_sound {P : Program} {T : TypeId → Option TI} (hT : TOk P T) {B : Nat} {ρ : BMap} {H : AH} {w : World} {t : TypeId} {p v : Value} {a : Addr} (h : aLoadX T H t p = some v) (hH : HRel B ρ H.bs w) (hp : VRel ρ p (.pointer (some a))) :
    ∃ u, (loadVar t a).run P w = .ok u w ∧ VRel ρ v u := by
  have key : ∃ u, (Instr.loadAt t (.pointer (some a))).run P w = .ok u w ∧ VRel ρ v u := by
    unfold aLoadX at h
    split at h
    · rename_i v' hv
      cases h
      exact aLoad_sound hT hv hH hp
    · exact aLoadT_sound hT h hH hp
  obtain ⟨u, h1, h2⟩ := key
  refine ⟨u, ?_, h2⟩
  simpa only [Instr.loadAt, Instr.sureAddr, Sem.run_bind, Sem.run_pure, Result.andThen_ok] using h1

noncomputable def aGet (T : TypeId → Option TI) (H : AH) (t : TypeId) : APl → Option Value
  | .val v => some v
  | .var p => aLoadX T H t p

theorem aGet_sound {P : Program} {T : TypeId → Option TI} (hT : TOk P T) {B : Nat} {ρ : BMap} {H : AH} {w : World} {t : TypeId} {x : APl} {x' : Place} {v : Value} (h : aGet T H t x = some v) (hH : HRel B ρ H.bs w) (hx : PlRel ρ x x') :
    ∃ u, (x'.get t).run P w = .ok u w ∧ VRel ρ v u := by
  cases x with
  | val a =>
    cases x' with
    | val u => cases h; exact ⟨u, rfl, hx⟩
    | var a => exact hx.elim
  | var p =>
    cases x' with
    | val u => exact hx.elim
    | var a => exact aLoadX_sound hT h hH hx

/-- A field of what lies at an address. -/
noncomputable def aFieldP (T : TypeId → Option TI) (fd : Field) : Value → Option Value
  | .pointer (some ⟨i, off, none⟩) => match T fd.type with
    | some y => if Nat.beq y.size 0 then none else some (.pointer (some ⟨i, off + fd.offset, none⟩))
    | none => none
  | _ => none

theorem aFieldP_sound {P : Program} {T : TypeId → Option TI} (hT : TOk P T) {ρ : BMap} {w : World} {fd : Field} {p q : Value} {a : Addr} (h : aFieldP T fd p = some q) (hp : VRel ρ p (.pointer (some a))) :
    ∃ c, (fieldPlace a fd).run P w = .ok c w ∧ VRel ρ q (.pointer (some c)) := by
  unfold aFieldP at h
  split at h
  · split at h
    · rename_i y hy
      split at h
      · cases h
      · rename_i h0
        cases h
        have h0' : ¬ y.size = 0 := fun e => h0 (by simp [e])
        cases hp with
        | ptr hρ =>
          rename_i b o tot
          refine ⟨⟨b, o + (_ + fd.offset), none⟩, ?_, .ptr hρ⟩
          simp only [fieldPlace, Sem.run_bind, hT.size hy w, Result.andThen_ok, h0', if_false, Sem.run_pure, addr_add, Nat.add_assoc]
    · cases h
  · cases h

noncomputable def aFollow (T : TypeId → Option TI) (H : AH) : List FieldStep → TypeId → APl → Option (TypeId × APl)
  | [], t, x => some (t, x)
  | s :: rest, t, x => match T s.struct with
    | some { desc := .struct fields, .. } => match fields[s.index]? with
      | some f =>
        if s.deref then match aGet T H t x with
          | some p => match aFieldP T f p with
            | some q => aFollow T H rest f.type (.var q)
            | none => none
          | none => none
        else match x with
          | .var p => match aFieldP T f p with
            | some q => aFollow T H rest f.type (.var q)
            | none => none
          | .val (.agg cs) => match aPart T f.type cs f.offset with
            | some v => aFollow T H rest f.type (.val v)
            | none => none
          | _ => none
      | none => none
    | _ => none

theorem aFollow_sound {P : Program} {T : TypeId → Option TI} (hT : TOk P T) {B : Nat} {ρ : BMap} {H : AH} {w : World} (hH : HRel B ρ H.bs w) : ∀ (path : List FieldStep) (t : TypeId) (x : APl) (x' : Place) (r : TypeId × APl), aFollow T H path t x = some r → PlRel ρ x x' →
    ∃ y', (follow path t x').run P w = .ok (r.1, y') w ∧ PlRel ρ r.2 y'
  | [], t, x, x', r, h, hx => by
    cases h
    exact ⟨x', rfl, hx⟩
  | s :: rest, t, x, x', r, h, hx => by
    unfold aFollow at h
    split at h
    · rename_i _ _ _ fields _ hs
      have hu := run_underlying (hT.under hs) w
      split at h
      · rename_i f hf
        split at h
        · rename_i hd
          split at h
          · rename_i p hp
            split at h
            · rename_i q hq
              obtain ⟨u, g1, g2⟩ := aGet_sound hT hp hH hx
              have hpa : ∃ a, u = .pointer (some a) := by
                unfold aFieldP at hq
                split at hq
                · cases g2 with
                  | ptr hρ => exact ⟨_, rfl⟩
                · cases hq
              obtain ⟨a, rfl⟩ := hpa
              obtain ⟨c, g3, g4⟩ := aFieldP_sound (w := w) hT hq g2
              obtain ⟨y', g5, g6⟩ := aFollow_sound hT hH rest f.type (.var q) (.var c) r h g4
              refine ⟨y', ?_, g6⟩
              simp only [follow, Sem.run_bind, hu, Result.andThen_ok, hf, hd, if_true, g1, asAddr, Sem.run_pure, g3, g5]
            · cases h
          · cases h
        · rename_i hd
          have hd' : s.deref = false := by simpa using hd
          split at h
          · rename_i p
            split at h
            · rename_i q hq
              cases x' with
              | val u => exact hx.elim
              | var a =>
                obtain ⟨c, g3, g4⟩ := aFieldP_sound (w := w) hT hq hx
                obtain ⟨y', g5, g6⟩ := aFollow_sound hT hH rest f.type (.var q) (.var c) r h g4
                refine ⟨y', ?_, g6⟩
                simp only [follow, Sem.run_bind, hu, Result.andThen_ok, hf, hd', Bool.false_eq_true, if_false, g3, g5]
            · cases h
          · rename_i cs
            split at h
            · rename_i v hv
              cases x' with
              | var a => exact hx.elim
              | val u =>
                have hx2 : VRel ρ (.agg cs) u := hx
                cases hx2 with
                | agg hs' hr =>
                  rename_i cs'
                  obtain ⟨u2, g3, g4⟩ := aPart_sound (P := P) hT hv (ρ := ρ) (cs' := cs') ⟨hs', hr⟩ w
                  obtain ⟨y', g5, g6⟩ := aFollow_sound hT hH rest f.type (.val v) (.val u2) r h g4
                  refine ⟨y', ?_, g6⟩
                  simp only [follow, Sem.run_bind, hu, Result.andThen_ok, hf, hd', Bool.false_eq_true, if_false, g3, g5]
            · cases h
          · cases h
      · cases h
    · cases h

noncomputable def ptrD : TypeDesc → Option TypeId
  | .pointer e => some e
  | _ => none

noncomputable def aRecvAt (T : TypeId → Option TI) (H : AH) (xt : TypeId) (x : APl) (b : Bool) : Option Value :=
  match T xt with
  | some y => match ptrD y.desc, b with
    | some _, true => aGet T H xt x
    | some e, false => match aGet T H xt x with
      | some (.pointer (some a)) => aLoadX T H e (.pointer (some a))
      | _ => none
    | none, true => match x with
      | .var p => some p
      | .val _ => none
    | none, false => aGet T H xt x
  | none => none

theorem aRecvAt_sound {P : Program} {T : TypeId → Option TI} (hT : TOk P T) {B : Nat} {ρ : BMap} {H : AH} {w : World} (hH : HRel B ρ H.bs w) {xt : TypeId} {x : APl} {x' : Place} {b : Bool} {v : Value} (h : aRecvAt T H xt x b = some v) (hx : PlRel ρ x x') (s : Option String) :
    ∃ u, (receiverAt xt x' b s).run P w = .ok u w ∧ VRel ρ v u := by
  unfold aRecvAt at h
  split at h
  · rename_i y hy
    have hu := run_underlying (hT.under hy) w
    unfold receiverAt
    rw [Sem.run_bind, hu, Result.andThen_ok]
    split at h
    · rename_i e hd
      obtain ⟨u, g1, g2⟩ := aGet_sound hT h hH hx
      refine ⟨u, ?_, g2⟩
      revert hd
      cases y.desc <;> intro hd <;> first | exact g1 | cases hd
    · rename_i e hd
      split at h
      · rename_i a hp
        obtain ⟨u, g1, g2⟩ := aGet_sound hT hp hH hx
        have hpa : ∃ c, u = .pointer (some c) := by cases g2 <;> exact ⟨_, rfl⟩
        obtain ⟨c, rfl⟩ := hpa
        obtain ⟨u2, g3, g4⟩ := aLoadX_sound hT h hH g2
        refine ⟨u2, ?_, g4⟩
        have hw : ∀ n : String, (Builtin.ssaWrapNilChk_ #[xt] xt #[.pointer (some c), strVal "", strVal n]).run P w = .ok (.pointer (some c)) w := fun _ => rfl
        have wrapped : ((do
            let ptr ← x'.get xt
            let ptr ← match s with
              | some name => Builtin.ssaWrapNilChk_ #[xt] xt #[ptr, strVal "", strVal name]
              | none => pure ptr
            loadVar e (← asAddr ptr)) : Sem Value).run P w = .ok u2 w := by
          cases s <;> simp [g1, hw, asAddr, g3]
        revert hd
        cases y.desc <;> intro hd <;> first
          | (cases hd
             exact wrapped)
          | cases hd
      · cases h
    · rename_i hd
      split at h
      · rename_i p
        cases h
        cases x' with
        | val u => exact hx.elim
        | var a =>
          refine ⟨.pointer (some a), ?_, hx⟩
          revert hd
          cases y.desc <;> intro hd <;> first | rfl | cases hd
      · cases h
    · rename_i hd
      obtain ⟨u, g1, g2⟩ := aGet_sound hT h hH hx
      refine ⟨u, ?_, g2⟩
      revert hd
      cases y.desc <;> intro hd <;> first | (cases x' <;> exact g1) | cases hd
  · cases h

/-- The method of a value in an interface, and what it is called of. -/
noncomputable def aRecv (T : TypeId → Option TI) (H : AH) (t : TypeId) (x : TI) (name : String) (v : Value) : Option (FuncId × Value) :=
  match x.ex.mp name with
  | some (path, f, b) => match aFollow T H path t (.val v) with
    | some (xt, pl) => match aRecvAt T H xt pl b with
      | some r => some (f, r)
      | none => none
    | none => none
  | none => none

theorem aRecv_sound {P : Program} {T : TypeId → Option TI} (hT : TOk P T) {B : Nat} {ρ : BMap} {H : AH} {w : World} (hH : HRel B ρ H.bs w) {t : TypeId} {x : TI} (hx : T t = some x) {name : String} {f : FuncId} {v v' r : Value} (h : aRecv T H t x name v = some (f, r)) (hv : VRel ρ v v') :
    ∃ r', (∀ fuel, (method (fuel + 1) t v' name).run P w = .ok (f, r') w) ∧ VRel ρ r r' := by
  unfold aRecv at h
  split at h
  · rename_i path f0 b hm
    split at h
    · rename_i xt pl hfo
      split at h
      · rename_i r0 hr0
        cases h
        obtain ⟨i, m, hi, hf, hpath, hfn⟩ := (hT t x hx).2.2.2.2.2.2.2.2.2.2.2 name path f b hm
        have hty : (typeInfo t).run P w = .ok i w := by simp [typeInfo, hi]
        obtain ⟨y', g1, g2⟩ := aFollow_sound hT hH path t (.val v) (.val v') _ hfo hv
        simp only at g1 g2
        obtain ⟨u, g3, g4⟩ := aRecvAt_sound hT hH hr0 g2 (if m.path.isEmpty then some ((name.splitOn ".").getLastD name) else none)
        refine ⟨u, fun fuel => ?_, g4⟩
        unfold method
        simp only [Sem.run_bind, hty, Result.andThen_ok, hf, hpath, g1, hfn, g3, Sem.run_pure]
      · cases h
    · cases h
  · cases h

theorem run_invokeM {P : Program} {t : TypeId} {name : String} {f : FuncId} {v r : Value} {w : World} (hm : ∀ fuel, (method (fuel + 1) t v name).run P w = .ok (f, r) w) (as : Array Value) :
    (invoke (.fn (.method name) #[]) (#[.iface t v] ++ as)).run P w = (invoke (.fn (.func f) #[]) (#[r] ++ as)).run P w := by
  have h0 : (#[Value.iface t v] ++ as)[0]? = some (.iface t v) := by rw [Array.getElem?_append_left (by simp)]; rfl
  have h1 : (#[Value.iface t v] ++ as).extract 1 (#[Value.iface t v] ++ as).size = as := by
    apply Array.ext'
    simp
  obtain ⟨n, hn⟩ : ∃ n, P.types.size + Made.depth = n + 1 := ⟨P.types.size + Made.depth - 1, by
    have : 0 < Made.depth := by decide
    omega⟩
  have e1 : invoke (.fn (.method name) #[]) (#[Value.iface t v] ++ as) = callMethod (.iface t v) name as := by
    unfold invoke
    simp only [h0]
    rw [h1]
  have e2 : invoke (.fn (.func f) #[]) (#[r] ++ as) = callFunc f (#[r] ++ as) := by
    show callFunc f ((#[r] ++ as) ++ #[]) = _
    rw [Array.append_empty]
  rw [e1, e2]
  have hprog : (program : Sem Program).run P w = .ok P w := rfl
  unfold callMethod
  simp only [Sem.run_bind, hprog, Result.andThen_ok, hn, hm n]

/-- A method that is bound to what it is called of. -/
noncomputable def boundOf : Value → Option (FuncId × Value)
  | .func (.func f) ⟨[r]⟩ ⟨[]⟩ => some (f, r)
  | _ => none

/-- One operation. -/
noncomputable def evOp (T : TypeId → Option TI) (call : Value → List Value → AH → Option (Value × AH)) (o : Oper) (g : Operand → Option Value) (H : AH) : Option (Value × AH) :=
  match vOp T g o.op with
  | some v => some (v, H)
  | none =>
    match hOpB T g H o.op with
    | some r => some r
    | none =>
      match o.op with
      | .call { callee := .value f, args, .. } =>
        match g f, mapO g args.toList with
        | some fv, some as => match boundOf fv with
          | some (m, r) => call (.func (.func m) #[] #[]) (r :: as) H
          | none => call fv as H
        | _, _ => none
      | .call { callee := .invoke recv name, args, .. } =>
        match g recv, mapO g args.toList with
        | some (.iface t v), some as => match T t with
          | some x => match aRecv T H t x name v with
            | some (f, r) => call (.func (.func f) #[] #[]) (r :: as) H
            | none => none
          | none => none
        | _, _ => none
      | _ => none

theorem vOp_notDefer {T : TypeId → Option TI} {g : Operand → Option Value} {op : Op} {v : Value} (h : vOp T g op = some v) (c : Call) : op ≠ .defer c := by
  intro e; subst e; simp [vOp] at h

section
variable {P : Program} {b : Frame} {a : Act} {k : List Item} {cs : List Frame} {w w' : World} {ops : Array Oper} {i : Nat} {rest : List Nat} {o : Oper}

theorem step_val (ho : ops[i]? = some o) (hw : Region.wanted o (yielded ops a.tmps) = true) (hd : ∀ c, o.op ≠ .defer c) {u : Value} (h : (execOp a.eval o).run P w = .ok (.value u) w') :
    step P (lone (b.atR a (.inRegion ops (i :: rest) :: k)) cs w) = .next (lone (b.atR (a.put o.dst u) (.inRegion ops rest :: k)) cs w') := by
  refine step_lone_go ?_
  rw [stepGR_op ho hw, Oper.semAt_eq _ _ _ hd]
  have hfin := Frame.finish_atR b a ops i rest k u
  simp only [ho, Option.bind_some] at hfin
  rw [← hfin]
  simp [stepG.apply, h]

theorem step_skipped (ho : ops[i]? = some o) (hw : Region.wanted o (yielded ops a.tmps) = true) (hd : ∀ c, o.op ≠ .defer c) (h : (execOp a.eval o).run P w = .ok .skip w') :
    step P (lone (b.atR a (.inRegion ops (i :: rest) :: k)) cs w) = .next (lone (b.atR (a.put o.dst undef) (.inRegion ops rest :: k)) cs w') := by
  refine step_lone_go ?_
  rw [stepGR_op ho hw, Oper.semAt_eq _ _ _ hd]
  have hfin := Frame.finish_atR b a ops i rest k undef
  simp only [ho, Option.bind_some] at hfin
  rw [← hfin]
  simp [stepG.apply, h]

theorem step_push (ho : ops[i]? = some o) (hw : Region.wanted o (yielded ops a.tmps) = true) (hd : ∀ c, o.op ≠ .defer c) {n : Next} {fr : Frame} (h : (execOp a.eval o).run P w = .ok n w') (hp : pushed P n = some fr) :
    step P (lone (b.atR a (.inRegion ops (i :: rest) :: k)) cs w) = .next (lone fr (b.atR a (.inRegion ops (i :: rest) :: k) :: cs) w') := by
  refine step_lone_go ?_
  rw [stepGR_op ho hw, Oper.semAt_eq _ _ _ hd]
  cases n <;> simp only [pushed, Option.some.injEq] at hp <;> first | cases hp | skip
  all_goals simp [stepG.apply, h, Frame.atR]
end

/-- One operation is sound. -/
theorem evOp_sound {P : Program} {T : TypeId → Option TI} (hT : TOk P T) {call : Value → List Value → AH → Option (Value × AH)} (hC : CallOK P call) {o : Oper} {g : Operand → Option Value} {H H' : AH} {v : Value} (h : evOp T call o g H = some (v, H')) :
    H.next ≤ H'.next ∧ ∀ (B : Nat) (ρ : BMap) (w : World) (b : Frame) (a : Act) (k : List Item) (cs : List Frame) (ops : Array Oper) (i : Nat) (rest : List Nat), ops[i]? = some o → Region.wanted o (yielded ops a.tmps) = true →
      ERel ρ g a.eval → HRel B ρ H.bs w → Free ρ H.next H'.next →
      ∃ ρ' w' u, Steps P (lone (b.atR a (.inRegion ops (i :: rest) :: k)) cs w) (lone (b.atR (a.put o.dst u) (.inRegion ops rest :: k)) cs w') ∧ VRel ρ' v u ∧ Post B ρ H w H' ρ' w' := by
  unfold evOp at h
  split at h
  · rename_i v' hv
    cases h
    refine ⟨Nat.le_refl _, fun B ρ w b a k cs ops i rest ho hw hA hH _ => ?_⟩
    obtain ⟨u, hu, hr⟩ := vOp_sound (P := P) hT hv hA w
    exact ⟨ρ, w, u, .one (step_val ho hw (vOp_notDefer hv) hu), hr, Post.same hH⟩
  · split at h
    · rename_i r hr
      cases h
      refine ⟨hOpB_mono hr, fun B ρ w b a k cs ops i rest ho hw hA hH hf => ?_⟩
      obtain ⟨ρ', w', n, hn, hg, hp⟩ := hOpB_sound (P := P) hT hr hA hH hf
      rcases hg with ⟨u, rfl, hu⟩ | ⟨rfl, rfl⟩
      · exact ⟨ρ', w', u, .one (step_val ho hw (hOpB_notDefer hr) hn), hu, hp⟩
      · exact ⟨ρ', w', undef, .one (step_skipped ho hw (hOpB_notDefer hr) hn), vrel_undef ρ', hp⟩
    · split at h
      · rename_i f args tys he
        split at h
        · rename_i fv as hfv has
          split at h
          · rename_i m r hbo
            have hfe : fv = .func (.func m) #[r] #[] := by
              unfold boundOf at hbo
              split at hbo
              · cases hbo; rfl
              · cases hbo
            subst hfe
            obtain ⟨hm, hc⟩ := hC _ _ _ _ _ h
            refine ⟨hm, fun B ρ w b a k cs ops i rest ho hw hA hH hf => ?_⟩
            obtain ⟨m1, m2⟩ := mapO_spec has
            have hargs : LRel ρ as (args.map a.eval) := by
              refine ⟨by simpa using m1, fun j x y hx hy => ?_⟩
              have hj : j < args.size := by
                have := (Array.getElem?_eq_some_iff.1 hy).1
                simpa using this
              obtain ⟨z, hz, hfz⟩ := m2 j args[j] (by simp [hj])
              rw [hz] at hx; cases hx
              have : y = a.eval args[j] := by simp [hj] at hy; exact hy.symm
              subst this
              exact hA _ _ hfz
            have hfr := hA _ _ hfv
            obtain ⟨r', hr', hef⟩ : ∃ r', VRel ρ r r' ∧ a.eval f = .func (.func m) #[r'] #[] := by
              generalize a.eval f = ef at hfr
              cases hfr with
              | bound h => exact ⟨_, h, rfl⟩
            have hargs2 : LRel ρ (r :: as) (#[r'] ++ args.map a.eval) := by
              refine ⟨by simp [hargs.1]; omega, fun j x y hx hy => ?_⟩
              cases j with
              | zero =>
                rw [Array.getElem?_append_left (by simp)] at hy
                cases hx
                cases hy
                exact hr'
              | succ j => exact hargs.2 j x y (by simpa using hx) (by rw [Array.getElem?_append_right (by simp)] at hy; simpa using hy)
            obtain ⟨fn, cap, n, fr, hfv', hinv, hpush, hst⟩ := hc B ρ w (.func (.func m) #[] #[]) (#[r'] ++ args.map a.eval) (.func rfl (fun j v v' hv => by simp at hv)) hargs2 hH hf
            obtain ⟨ρ', w', u, hst, hu, hp⟩ := hst (b.atR a (.inRegion ops (i :: rest) :: k)) cs
            have hd : ∀ c, o.op ≠ .defer c := by intro c; rw [he]; simp
            have hex : (execOp a.eval o).run P w = .ok n w := by
              rw [ex_call a.eval he]
              cases hfv'
              simp only [resolve, hef, Deferred.ofValue, Sem.run_bind, Sem.run_pure, Result.andThen_ok, hinv]
            refine ⟨ρ', w', u, .head (step_push ho hw hd hex hpush) ?_, hu, hp⟩
            rw [Frame.finish_atR, ho] at hst
            exact hst
          · obtain ⟨hm, hc⟩ := hC _ _ _ _ _ h
            refine ⟨hm, fun B ρ w b a k cs ops i rest ho hw hA hH hf => ?_⟩
            obtain ⟨m1, m2⟩ := mapO_spec has
            have hargs : LRel ρ as (args.map a.eval) := by
              refine ⟨by simpa using m1, fun j x y hx hy => ?_⟩
              have hj : j < args.size := by
                have := (Array.getElem?_eq_some_iff.1 hy).1
                simpa using this
              obtain ⟨z, hz, hfz⟩ := m2 j args[j] (by simp [hj])
              rw [hz] at hx; cases hx
              have : y = a.eval args[j] := by simp [hj] at hy; exact hy.symm
              subst this
              exact hA _ _ hfz
            obtain ⟨fn, cap, n, fr, hfv', hinv, hpush, hst⟩ := hc B ρ w (a.eval f) (args.map a.eval) (hA _ _ hfv) hargs hH hf
            obtain ⟨ρ', w', u, hst, hu, hp⟩ := hst (b.atR a (.inRegion ops (i :: rest) :: k)) cs
            have hd : ∀ c, o.op ≠ .defer c := by intro c; rw [he]; simp
            have hex : (execOp a.eval o).run P w = .ok n w := by
              rw [ex_call a.eval he]
              simp only [resolve, hfv', Deferred.ofValue, Sem.run_bind, Sem.run_pure, Result.andThen_ok, Array.empty_append, hinv]
            refine ⟨ρ', w', u, .head (step_push ho hw hd hex hpush) ?_, hu, hp⟩
            rw [Frame.finish_atR, ho] at hst
            exact hst
        · cases h
      · rename_i recv name args tys he
        split at h
        · rename_i t v0 as hrv has
          split at h
          · rename_i x hx
            split at h
            · rename_i f r0 hm0
              · obtain ⟨hm, hc⟩ := hC _ _ _ _ _ h
                refine ⟨hm, fun B ρ w b a k cs ops i rest ho hw hA hH hf => ?_⟩
                obtain ⟨m1, m2⟩ := mapO_spec has
                have hargs : LRel ρ as (args.map a.eval) := by
                  refine ⟨by simpa using m1, fun j x y hx hy => ?_⟩
                  have hj : j < args.size := by
                    have := (Array.getElem?_eq_some_iff.1 hy).1
                    simpa using this
                  obtain ⟨z, hz, hfz⟩ := m2 j args[j] (by simp [hj])
                  rw [hz] at hx; cases hx
                  have : y = a.eval args[j] := by simp [hj] at hy; exact hy.symm
                  subst this
                  exact hA _ _ hfz
                have hrecv := hA _ _ hrv
                generalize hre : a.eval recv = re at hrecv
                cases hrecv with
                | iface hv0 =>
                  rename_i v1'
                  obtain ⟨v0', hmeth, hv0⟩ := aRecv_sound (P := P) hT hH hx hm0 hv0
                  have hargs2 : LRel ρ (r0 :: as) (#[v0'] ++ args.map a.eval) := by
                    refine ⟨by have := hargs.1; simp at this ⊢; omega, fun j p q hp hq => ?_⟩
                    cases j with
                    | zero =>
                      have e0 : (#[v0'] ++ args.map a.eval)[0]? = some v0' := by rw [Array.getElem?_append_left (by simp)]; rfl
                      rw [e0] at hq
                      cases hq
                      simp at hp
                      subst hp
                      exact hv0
                    | succ j =>
                      refine hargs.2 j p q (by simpa using hp) ?_
                      rw [Array.getElem?_append_right (by simp)] at hq
                      simpa using hq
                  obtain ⟨fn, cap, n, fr, hfv', hinv, hpush, hst⟩ := hc B ρ w (.func (.func f) #[] #[]) (#[v0'] ++ args.map a.eval) (.func rfl (fun j v v' hv => by simp at hv)) hargs2 hH hf
                  cases hfv'
                  obtain ⟨ρ', w', u, hst, hu, hp⟩ := hst (b.atR a (.inRegion ops (i :: rest) :: k)) cs
                  have hd : ∀ c, o.op ≠ .defer c := by intro c; rw [he]; simp
                  have hex : (execOp a.eval o).run P w = .ok n w := by
                    rw [ex_call a.eval he]
                    simp only [resolve, hre, Sem.run_bind, Sem.run_pure, Result.andThen_ok]
                    rw [run_invokeM hmeth]
                    exact hinv
                  refine ⟨ρ', w', u, .head (step_push ho hw hd hex hpush) ?_, hu, hp⟩
                  rw [Frame.finish_atR, ho] at hst
                  exact hst
            · cases h
          · cases h
        · cases h
      · cases h

/-- The operations of a region, one behind the other. -/
noncomputable def evSeq (T : TypeId → Option TI) (call : Value → List Value → AH → Option (Value × AH)) (ops : Array Oper) : List Oper → AF → AH → Option (AF × AH)
  | [], A, H => some (A, H)
  | o :: r, A, H =>
    if aWanted o ops A.tm then
      match evOp T call o (opd A.tm) H with
      | some (v, H') => evSeq T call ops r { A with tm := putT A.tm o.dst v } H'
      | none => none
    else evSeq T call ops r { A with tm := putT A.tm o.dst undef } H

theorem evSeq_sound {P : Program} {T : TypeId → Option TI} (hT : TOk P T) {call : Value → List Value → AH → Option (Value × AH)} (hC : CallOK P call) {ops : Array Oper} : ∀ (l : List Oper) (A : AF) (H : AH) (A' : AF) (H' : AH), evSeq T call ops l A H = some (A', H') →
    H.next ≤ H'.next ∧ ∀ (B : Nat) (ρ : BMap) (w : World) (b : Frame) (a : Act) (k : List Item) (cs : List Frame) (is : List Nat), is.length = l.length → (∀ (j i : Nat), is[j]? = some i → ops[i]? = l[j]?) → FRel ρ A a → HRel B ρ H.bs w → Free ρ H.next H'.next →
      ∃ ρ' w' a', Steps P (lone (b.atR a (.inRegion ops is :: k)) cs w) (lone (b.atR a' (.inRegion ops [] :: k)) cs w') ∧ FRel ρ' A' a' ∧ Post B ρ H w H' ρ' w'
  | [], A, H, A', H', h => by
    simp only [evSeq, Option.some.injEq, Prod.mk.injEq] at h
    obtain ⟨rfl, rfl⟩ := h
    refine ⟨Nat.le_refl _, fun B ρ w b a k cs is hl _ hA hH _ => ?_⟩
    have : is = [] := List.length_eq_zero_iff.1 hl
    subst this
    exact ⟨ρ, w, a, .refl _ _, hA, Post.same hH⟩
  | o :: r, A, H, A', H', h => by
    simp only [evSeq] at h
    split at h
    · rename_i hw
      split at h
      · rename_i v H1 hv
        obtain ⟨m1, s1⟩ := evOp_sound hT hC hv
        obtain ⟨m2, s2⟩ := evSeq_sound hT hC r _ _ _ _ h
        refine ⟨Nat.le_trans m1 m2, fun B ρ w b a k cs is hl hi hA hH hf => ?_⟩
        match is, hl, hi with
        | i :: is', hl, hi =>
          have hoi : ops[i]? = some o := by simpa using hi 0 i (by simp)
          obtain ⟨ρ1, w1, u, st1, hu, p1⟩ := s1 B ρ w b a k cs ops i is' hoi (by rw [← aWanted_eq hA.tm]; exact hw) hA.ops hH (fun q h1 h2 => hf q h1 (by omega))
          obtain ⟨ρ2, w2, a2, st2, hA2, p2⟩ := s2 B ρ1 w1 b (a.put o.dst u) k cs is' (by simpa using hl) (fun j q hq => by simpa using hi (j + 1) q (by simpa using hq)) (frel_put (hA.ext p1.ext) o.dst hu) p1.rel (Free.later p1 m1 hf)
          exact ⟨ρ2, w2, a2, st1.trans st2, hA2, p1.trans p2 m1 m2⟩
      · cases h
    · rename_i hw
      obtain ⟨m2, s2⟩ := evSeq_sound hT hC r _ _ _ _ h
      refine ⟨m2, fun B ρ w b a k cs is hl hi hA hH hf => ?_⟩
      match is, hl, hi with
      | i :: is', hl, hi =>
        have hoi : ops[i]? = some o := by simpa using hi 0 i (by simp)
        have hst : step P (lone (b.atR a (.inRegion ops (i :: is') :: k)) cs w) = .next (lone (b.atR (a.put o.dst undef) (.inRegion ops is' :: k)) cs w) := by
          have := stepR_op_skip (P := P) (b := b) (a := a) (k := k) (cs := cs) (w := w) (ops := ops) (i := i) (rest := is') (by
            rw [hoi]
            simp only [Option.map_some, Option.getD_some]
            rw [← aWanted_eq hA.tm]; simpa using hw)
          rw [hoi] at this
          exact this
        obtain ⟨ρ2, w2, a2, st2, hA2, p2⟩ := s2 B ρ w b (a.put o.dst undef) k cs is' (by simpa using hl) (fun j q hq => by simpa using hi (j + 1) q (by simpa using hq)) (frel_put hA o.dst (vrel_undef ρ)) hH hf
        exact ⟨ρ2, w2, a2, .head hst st2, hA2, p2⟩

end Go.Proofs.Ytjginpeoblilpaa
