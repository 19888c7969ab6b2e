/-
  What is proved: nothing of the program. This text joins the operations that touch no memory into one function, and says what an operation of the model gives.
-/
import Derived.Test.YtjginpeoblilpaaEvE
namespace Go.Proofs.Ytjginpeoblilpaa
open Go.RowKit
set_option linter.unusedSimpArgs false
set_option linter.unusedVariables false

noncomputable def opdO (g : Operand → Option Value) : Option Operand → Option (Option Value)
  | none => some none
  | some x => (g x).map some

/-- A value of an interface type is asked for its dynamic type. -/
noncomputable def aAssert (T : TypeId → Option TI) (asserted : TypeId) (x : Value) (ok : Bool) : Option Value :=
  match T asserted with
  | some y => match y.desc with
    | .interface want => match x with
      | .nilIface => if ok then some (.tuple #[y.zero, .bool false]) else none
      | .iface t v => match T t with
        | some z => if z.ex.im want then some (if ok then .tuple #[.iface t v, .bool true] else .iface t v) else if ok then some (.tuple #[y.zero, .bool false]) else none
        | none => none
      | _ => none
    | _ => match x with
      | .iface t v => if Nat.beq t asserted then some (if ok then .tuple #[v, .bool true] else v) else if ok then some (.tuple #[y.zero, .bool false]) else none
      | .nilIface => if ok then some (.tuple #[y.zero, .bool false]) else none
      | _ => none
  | none => none

noncomputable def aMakeI (T : TypeId → Option TI) (t : TypeId) (x : Value) : Option Value :=
  match T t with
  | some y => match y.desc with
    | .interface _ => none
    | _ => some (.iface t x)
  | none => none

/-- The value operations. -/
noncomputable def isConstO : Operand → Bool
  | .const _ => true
  | _ => false

/-- Two nils, one of them written out. -/
noncomputable def nilNil (T : TypeId → Option TI) (op : BinOp) (t : TypeId) (x y : Operand) (u v : Value) : Option Value :=
  match u, v with
  | .nilIface, .nilIface => match T t with
    | some z => match z.desc with
      | .interface _ => if isConstO x || isConstO y then
          match op with
          | .eql => some (.bool true)
          | .neq => some (.bool false)
          | _ => none
        else none
      | _ => none
    | none => none
  | _, _ => none

theorem nilNil_sound {P : Program} {T : TypeId → Option TI} (hT : TOk P T) {op : BinOp} {t : TypeId} {u v r u' v' : Value} {x y : Operand} (h : nilNil T op t x y u v = some r) {ρ : BMap} (hu : VRel ρ u u') (hv : VRel ρ v v') (w : World) :
    (do eqGuard op t x y u' v'; binOp op t u' v' : Sem Value).run P w = .ok r w ∧ VRel ρ r r := by
  unfold nilNil at h
  split at h
  · cases hu; cases hv
    split at h
    · rename_i z hz
      have hd := hT.under hz
      split at h
      · rename_i ms e
        rw [e] at hd
        split at h
        · rename_i hc
          have hg : ∀ op, eqGuard op t x y .nilIface .nilIface = pure () := by
            intro op
            cases op <;> first | rfl | skip
            all_goals cases x <;> first | rfl | skip
            all_goals cases y <;> first | rfl | (simp [isConstO] at hc)
          have hq : ∀ d : Nat, (Op.equalIn (d + 1) t .nilIface .nilIface).run P w = .ok true w := fun d => by
            simp [Op.equalIn, run_underlying hd]
          obtain ⟨e1, e2⟩ := eql_of (P := P) (t := t) (u := .nilIface) (v := .nilIface) rfl rfl (hq 9999)
          rw [hg, pure_bind]
          split at h
          · cases h; exact ⟨e1, .bool _⟩
          · cases h; exact ⟨e2, .bool _⟩
          · cases h
        · cases h
      · cases h
    · cases h
  · cases h

noncomputable def vOp (T : TypeId → Option TI) (g : Operand → Option Value) (op : Op) : Option Value :=
  match op with
  | .move x | .assign x => g x
  | .pick c a b => match g c with
    | some (.bool t) => if t then g a else g b
    | _ => none
  | .build t ps => match partsO g ps.toList with
    | some l => aBuild T t l
    | none => none
  | .nilCheck x => match g x with
    | some (.pointer (some a)) => some (.pointer (some a))
    | some (.func (.func f) ⟨[]⟩ c) => some (.func (.func f) ⟨[]⟩ c)
    | some (.func (.yield l) ⟨[]⟩ ⟨[]⟩) => some (.func (.yield l) ⟨[]⟩ ⟨[]⟩)
    | some (.iface t v) => some (.iface t v)
    | _ => none
  | .makeInterface t x => match g x with
    | some u => aMakeI T t u
    | none => none
  | .typeAssert x _ asserted ok => match g x with
    | some u => aAssert T asserted u ok
    | none => none
  | .binOp op t x y _ => match g x, g y with
    | some u, some v => match aBin T op t u v with
      | some r => some r
      | none => nilNil T op t x y u v
    | _, _ => none
  | .unOp .not _ x => match g x with
    | some (.bool b) => some (.bool (!b))
    | _ => none
  | .unOp .neg _ x => match g x with
    | some (.int k n) => some (.int k (wrapI k (0 - n)))
    | _ => none
  | .unOp .xor _ x => match g x with
    | some (.int k n) => intOp .xor k (if k.signed then -1 else k.max) n
    | _ => none
  | .convert s d x => match g x, T s, T d with
    | some (.int _ n), some _, some { desc := .int k, .. } => some (.int k (wrapI k n))
    | _, _, _ => none
  | .makeFunc (.func f) ⟨[r]⟩ ⟨[]⟩ => (g r).map fun u => .func (.func f) #[u] #[]
  | .makeFunc (.func f) first captured => if first.size = 0 then (mapO g captured.toList).map (fun c => .func (.func f) #[] c.toArray) else none
  | .slice t x lo hi none => match g x, opdO g lo, opdO g hi with
    | some u, some l, some h => aSlice T t u l h
    | _, _, _ => none
  | .fieldAddr s x f => match g x with
    | some u => aFieldAddr T s u f
    | none => none
  | .field t x f => match g x with
    | some u => aField T t u f
    | none => none
  | .indexAddr t x i => match g x, g i with
    | some u, some v => aIndexAddr T t u v
    | _, _ => none
  | .index t x i => match g x, g i with
    | some u, some v => aIndex T t u v
    | _, _ => none
  | .extract t i => match g t with
    | some (.tuple vs) => vs[i]?
    | _ => none
  | _ => none

theorem natV_rel {ρ : BMap} {v u : Value} {n : Nat} (h : natV v = some n) (hr : VRel ρ v u) : u = v := by
  obtain ⟨k, rfl⟩ := natV_spec h
  cases hr; rfl

theorem bnd_rel {ρ : BMap} {g : Operand → Option Value} {E : Operand → Value} (hE : ERel ρ g E) {x : Option Operand} {v : Option Value} (hv : opdO g x = some v) {d n : Nat} (h : bnd v d = some n) : x.map E = v := by
  cases x with
  | none => simp only [opdO, Option.some.injEq] at hv; subst hv; rfl
  | some x =>
    simp only [opdO, Option.map_eq_some_iff] at hv
    obtain ⟨u, hu, rfl⟩ := hv
    simp only [Option.map_some, Option.some.injEq]
    exact natV_rel (by simpa [bnd] using h) (hE _ _ hu)

theorem aSlice_bnd {T : TypeId → Option TI} {t : TypeId} {x v : Value} {lo hi : Option Value} (h : aSlice T t x lo hi = some v) : (∃ l, bnd lo 0 = some l) ∧ ∃ d hh, bnd hi d = some hh := by
  unfold aSlice at h
  split at h
  · split at h
    · split at h
      · split at h
        · exact ⟨⟨_, ‹_›⟩, ⟨_, _, ‹_›⟩⟩
        · cases h
      · cases h
    · cases h
  · split at h
    · split at h
      · split at h
        · exact ⟨⟨_, ‹_›⟩, ⟨_, _, ‹_›⟩⟩
        · cases h
      · cases h
    · cases h
  · split at h
    · split at h
      · split at h
        · exact ⟨⟨_, ‹_›⟩, ⟨_, _, ‹_›⟩⟩
        · cases h
      · cases h
    · cases h
  · split at h
    · split at h
      · split at h
        · exact ⟨⟨_, ‹_›⟩, ⟨_, _, ‹_›⟩⟩
        · cases h
      · cases h
    · cases h
  · split at h
    · split at h
      · split at h
        · exact ⟨⟨_, ‹_›⟩, ⟨_, _, ‹_›⟩⟩
        · cases h
      · cases h
    · cases h
  · split at h
    · split at h
      · exact ⟨⟨_, ‹_›⟩, ⟨_, _, ‹_›⟩⟩
      · cases h
    · cases h
  · cases h

theorem aIndexAddr_nat {T : TypeId → Option TI} {t : TypeId} {x ix v : Value} (h : aIndexAddr T t x ix = some v) : ∃ n, natV ix = some n := by
  unfold aIndexAddr at h
  split at h
  · exact ⟨_, ‹_›⟩
  · exact ⟨_, ‹_›⟩
  · cases h

theorem aIndex_nat {T : TypeId → Option TI} {t : TypeId} {x ix v : Value} (h : aIndex T t x ix = some v) : ∃ n, natV ix = some n := by
  unfold aIndex at h
  split at h
  · exact ⟨_, ‹_›⟩
  · exact ⟨_, ‹_›⟩
  · cases h

/-- A value operation of the model gives the value, and leaves the world as it is. -/
theorem vrel_pair {ρ : BMap} {v u : Value} (h : VRel ρ v u) (b : Bool) : VRel ρ (.tuple #[v, .bool b]) (.tuple #[u, .bool b]) := .tuple rfl fun j x y hx hy => by
  match j with
  | 0 => simp at hx hy; subst hx; subst hy; exact h
  | 1 => simp at hx hy; subst hx; subst hy; exact .bool b
  | j + 2 => simp at hx

theorem aMakeI_sound {P : Program} {T : TypeId → Option TI} (hT : TOk P T) {t : TypeId} {x v x' : Value} (h : aMakeI T t x = some v) {ρ : BMap} (hx : VRel ρ x x') (w : World) : ∃ u, (Instr.makeInterface t x').run P w = .ok u w ∧ VRel ρ v u := by
  unfold aMakeI at h
  split at h
  · rename_i y hy
    have hu := hT.under hy
    split at h
    · cases h
    · rename_i hd
      cases h
      refine ⟨.iface t x', ?_, .iface hx⟩
      unfold Instr.makeInterface
      rw [Sem.run_bind, run_underlying hu w, Result.andThen_ok]
      split
      · rename_i e; exact absurd e (hd _)
      · rfl
  · cases h

theorem aAssert_sound {P : Program} {T : TypeId → Option TI} (hT : TOk P T) {xt asserted : TypeId} {x v x' : Value} {ok : Bool} (h : aAssert T asserted x ok = some v) {ρ : BMap} (hx : VRel ρ x x') (w : World) : ∃ u, (Instr.typeAssert x' xt asserted ok).run P w = .ok u w ∧ VRel ρ v u := by
  unfold aAssert at h
  split at h
  · rename_i y hy
    have hu := hT.under hy
    have hz : VRel ρ y.zero y.zero := closedV_rel ρ 6 _ (hT asserted y hy).2.2.1
    have hzr := hT.zeroV hy w
    split at h
    · rename_i want hd
      rw [hd] at hu
      split at h
      · cases hx
        split at h
        · rename_i hok
          subst hok
          cases h
          exact ⟨.tuple #[y.zero, .bool false], by simp [Instr.typeAssert, run_underlying hu, hzr], vrel_pair hz false⟩
        · cases h
      · rename_i t v0
        split at h
        · rename_i z hz'
          obtain ⟨i, hi, him⟩ := (hT t z hz').2.2.2.2.2.2.2.2.1
          cases hx with
          | iface hv =>
            rename_i v0'
            split at h
            · rename_i hm
              rw [him] at hm
              cases h
              refine ⟨if ok then .tuple #[.iface t v0', .bool true] else .iface t v0', ?_, ?_⟩
              · simp [Instr.typeAssert, run_underlying hu, typeInfo, hi, missing_none hm]
              · cases ok
                · exact .iface hv
                · exact vrel_pair (.iface hv) true
            · rename_i hm
              rw [him] at hm
              obtain ⟨m, hmm⟩ := missing_some (by simpa using hm)
              split at h
              · rename_i hok
                subst hok
                cases h
                exact ⟨.tuple #[y.zero, .bool false], by simp [Instr.typeAssert, run_underlying hu, typeInfo, hi, hmm, hzr], vrel_pair hz false⟩
              · cases h
        · cases h
      · cases h
    · rename_i hd
      have hne : ∀ want, y.desc ≠ .interface want := hd
      clear hd
      generalize y.desc = d at hne hu
      split at h
      · rename_i t v0
        cases hx with
        | iface hv =>
          rename_i v0'
          split at h
          · rename_i ht
            have : t = asserted := Nat.eq_of_beq_eq_true ht
            subst this
            cases h
            refine ⟨if ok then .tuple #[v0', .bool true] else v0', ?_, ?_⟩
            · cases d <;> first | exact absurd rfl (hne _) | simp [Instr.typeAssert, run_underlying hu]
            · cases ok
              · exact hv
              · exact vrel_pair hv true
          · rename_i ht
            have hne2 : ¬ t = asserted := fun e => ht (by rw [e]; exact Nat.beq_refl asserted)
            split at h
            · rename_i hok
              subst hok
              cases h
              refine ⟨.tuple #[y.zero, .bool false], ?_, vrel_pair hz false⟩
              cases d <;> first | exact absurd rfl (hne _) | simp [Instr.typeAssert, run_underlying hu, hne2, hzr]
            · cases h
      · cases hx
        split at h
        · rename_i hok
          subst hok
          cases h
          refine ⟨.tuple #[y.zero, .bool false], ?_, vrel_pair hz false⟩
          cases d <;> first | exact absurd rfl (hne _) | simp [Instr.typeAssert, run_underlying hu, hzr]
        · cases h
      · cases h
  · cases h

theorem vOp_sound {P : Program} {T : TypeId → Option TI} (hT : TOk P T) {g : Operand → Option Value} {o : Oper} {v : Value} (h : vOp T g o.op = some v) {ρ : BMap} {E : Operand → Value} (hE : ERel ρ g E) (w : World) :
    ∃ u, (execOp E o).run P w = .ok (.value u) w ∧ VRel ρ v u := by
  unfold vOp at h
  unfold execOp
  split at h
  · rename_i x e; rw [e]; exact ⟨_, by simp, hE _ _ h⟩
  · rename_i x e; rw [e]; exact ⟨_, by simp, hE _ _ h⟩
  · rename_i c a b e
    rw [e]
    split at h
    · rename_i t hc
      have hcr := hE _ _ hc
      split at h
      · rename_i ht
        subst ht
        generalize hEc : E c = ec at hcr
        cases hcr
        exact ⟨E a, by simp [hEc, asBool], hE _ _ h⟩
      · rename_i ht
        have ht' : t = false := by simpa using ht
        subst ht'
        generalize hEc : E c = ec at hcr
        cases hcr
        exact ⟨E b, by simp [hEc, asBool], hE _ _ h⟩
    · cases h
  · rename_i t ps e
    rw [e]
    split at h
    · rename_i l hl
      have hp := partsO_rel hE _ _ hl
      obtain ⟨u, hu, hv⟩ := aBuild_sound hT h (qs := ps.map fun p => (p.1, E p.2)) (by simpa using hp) w
      refine ⟨u, ?_, hv⟩
      simp only [Sem.run_bind, hu, Result.andThen_ok, Sem.run_pure]
    · cases h
  · rename_i x e
    rw [e]
    split at h
    · rename_i a hx
      cases h
      have hr := hE _ _ hx
      refine ⟨E x, ?_, hr⟩
      generalize hEx : E x = ex at hr
      cases hr <;> simp [hEx]
    · rename_i f c hx
      cases h
      have hr := hE _ _ hx
      refine ⟨E x, ?_, hr⟩
      generalize hEx : E x = ex at hr
      cases hr <;> simp [hEx]
    · rename_i l hx
      cases h
      have hr := hE _ _ hx
      refine ⟨E x, ?_, hr⟩
      generalize hEx : E x = ex at hr
      cases hr <;> simp [hEx]
    · rename_i t v0 hx
      cases h
      have hr := hE _ _ hx
      refine ⟨E x, ?_, hr⟩
      generalize hEx : E x = ex at hr
      cases hr <;> simp [hEx]
    · cases h
  · rename_i t x e
    rw [e]
    split at h
    · rename_i u0 hx
      obtain ⟨u, h1, h2⟩ := aMakeI_sound (P := P) hT h (hE _ _ hx) w
      exact ⟨u, by simp only [Sem.run_bind, h1, Result.andThen_ok, Sem.run_pure], h2⟩
    · cases h
  · rename_i x xt asserted ok e
    rw [e]
    split at h
    · rename_i u0 hx
      obtain ⟨u, h1, h2⟩ := aAssert_sound (P := P) (xt := xt) hT h (hE _ _ hx) w
      exact ⟨u, by simp only [Sem.run_bind, h1, Result.andThen_ok, Sem.run_pure], h2⟩
    · cases h
  · rename_i op t x y yt e
    rw [e]
    split at h
    · rename_i a b ha hb
      split at h
      · rename_i r0 hr0
        cases h
        obtain ⟨h1, h2⟩ := aBin_sound hT hr0 (hE _ _ ha) (hE _ _ hb) x y w
        exact ⟨_, by simp only [Sem.run_bind] at h1 ⊢; rw [h1]; rfl, h2⟩
      · obtain ⟨h1, h2⟩ := nilNil_sound (P := P) hT h (hE _ _ ha) (hE _ _ hb) w
        exact ⟨v, by simp only [Sem.run_bind] at h1 ⊢; rw [h1]; rfl, h2⟩
    · cases h
  · rename_i t x e
    rw [e]
    split at h
    · rename_i b hx
      cases h
      have hr := hE _ _ hx
      generalize hEx : E x = ex at hr
      cases hr
      exact ⟨.bool (!b), by simp [hEx, Op.unary], .bool _⟩
    · cases h
  · rename_i t x e
    rw [e]
    split at h
    · rename_i k n hx
      cases h
      have hr := hE _ _ hx
      generalize hEx : E x = ex at hr
      cases hr
      exact ⟨_, by simp [hEx, Op.unary, Op.intArith, wrapI_eq], .int _ _⟩
    · cases h
  · rename_i t x e
    rw [e]
    split at h
    · rename_i k n hx
      have hr := hE _ _ hx
      generalize hEx : E x = ex at hr
      cases hr
      obtain ⟨h1, h2⟩ := intOp_sound (P := P) h 0 w
      have h3 : (Op.unary .xor (.int k n)).run P w = .ok v w := by
        rw [← h1]
        simp only [binOp, ne_eq, not_true_eq_false, if_false, Op.unary]
      exact ⟨v, by simp only [hEx, Sem.run_bind, h3, Result.andThen_ok, Sem.run_pure], h2 ρ⟩
    · cases h
  · rename_i s d x e
    rw [e]
    split at h
    · rename_i kk n i1 _ _ _ k _ hx hs hd
      cases h
      have hr := hE _ _ hx
      generalize hEx : E x = ex at hr
      cases hr
      refine ⟨.int k (wrapI k n), ?_, .int _ _⟩
      simp [hEx, convert, run_underlying (hT.under hs), run_underlying (hT.under hd), Conv.intToInt, wrapI_eq]
    · cases h
  · rename_i f r e
    rw [e]
    simp only [Option.map_eq_some_iff] at h
    obtain ⟨u, hu, rfl⟩ := h
    exact ⟨.func (.func f) #[E r] #[], by simp [Instr.makeFunc], .bound (hE _ _ hu)⟩
  · rename_i f first captured _ e
    rw [e]
    split at h
    · rename_i h0
      simp only [Option.map_eq_some_iff] at h
      obtain ⟨c, hc, rfl⟩ := h
      obtain ⟨h1, h2⟩ := mapO_spec hc
      have he : first = #[] := Array.eq_empty_of_size_eq_zero h0
      subst he
      refine ⟨.func (.func f) #[] (captured.map E), by simp [Instr.makeFunc], .func (by simpa using h1) fun j a b ha hb => ?_⟩
      have hj : j < captured.size := by
        have := (Array.getElem?_eq_some_iff.1 hb).1
        simpa using this
      obtain ⟨y, hy, hfy⟩ := h2 j captured[j] (by simp [hj])
      have ha' : c[j]? = some a := by simpa using ha
      rw [hy] at ha'; cases ha'
      have hb' : b = E captured[j] := by
        simp [hj] at hb; exact hb.symm
      subst hb'
      exact hE _ _ hfy
    · cases h
  · rename_i t x lo hi e
    rw [e]
    split at h
    · rename_i u l hh hu hl hhh
      obtain ⟨⟨_, hb1⟩, ⟨_, _, hb2⟩⟩ := aSlice_bnd h
      have e1 := bnd_rel hE hl hb1
      have e2 := bnd_rel hE hhh hb2
      obtain ⟨r, hr, hv⟩ := aSlice_sound hT h (hE _ _ hu) w
      refine ⟨r, ?_, hv⟩
      simp only [e1, e2, Option.map_none, Sem.run_bind, hr, Result.andThen_ok, Sem.run_pure]
    · cases h
  · rename_i s x f e
    rw [e]
    split at h
    · rename_i u hu
      obtain ⟨r, hr, hv⟩ := aFieldAddr_sound hT h (hE _ _ hu) w
      exact ⟨r, by simp only [Sem.run_bind, hr, Result.andThen_ok, Sem.run_pure], hv⟩
    · cases h
  · rename_i s x f e
    rw [e]
    split at h
    · rename_i u hu
      obtain ⟨r, hr, hv⟩ := aField_sound hT h (hE _ _ hu) w
      exact ⟨r, by simp only [Sem.run_bind, hr, Result.andThen_ok, Sem.run_pure], hv⟩
    · cases h
  · rename_i t x i e
    rw [e]
    split at h
    · rename_i u n hu hn
      obtain ⟨_, hnat⟩ := aIndexAddr_nat h
      have hi := natV_rel hnat (hE _ _ hn)
      obtain ⟨r, hr, hv⟩ := aIndexAddr_sound hT h (hE _ _ hu) w
      exact ⟨r, by simp only [hi, Sem.run_bind, hr, Result.andThen_ok, Sem.run_pure], hv⟩
    · cases h
  · rename_i t x i e
    rw [e]
    split at h
    · rename_i u n hu hn
      obtain ⟨_, hnat⟩ := aIndex_nat h
      have hi := natV_rel hnat (hE _ _ hn)
      obtain ⟨r, hr, hv⟩ := aIndex_sound hT h (hE _ _ hu) w
      exact ⟨r, by simp only [hi, Sem.run_bind, hr, Result.andThen_ok, Sem.run_pure], hv⟩
    · cases h
  · rename_i t i e
    rw [e]
    split at h
    · rename_i vs hx
      have hr := hE _ _ hx
      generalize hEx : E t = ex at hr
      cases hr with
      | tuple hs hr =>
        rename_i c'
        obtain ⟨u, hu, hv⟩ := (ARel.get (ρ := ρ) (c := vs) (c' := c') ⟨hs, hr⟩ h)
        exact ⟨u, by simp [hEx, Instr.extract, hu], hv⟩
    · cases h
  · cases h

end Go.Proofs.Ytjginpeoblilpaa
