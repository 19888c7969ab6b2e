/-
  What is proved: nothing of the program. This text holds the operations that touch no memory: on abstract values, and that the model's operations do the same.
-/
import Derived.Test.YtjginpeoblilpaaEvB
import Derived.WalkLawsBesides
import Derived.Laws.StructEq
import Derived.ChangeKeysEq
import Derived.DeepKeys
import Derived.LaidEqlPtr
import Derived.Lib.Bytealg
namespace Go.Proofs.Ytjginpeoblilpaa
open Go.RowKit
set_option linter.unusedSimpArgs false
set_option linter.unusedVariables false

/-- Whether values are compared plainly, and the methods by their names. -/
structure TX where
  eqB : Bool
  ms : String → Option (FuncId × Bool)
  cm : Bool
  nat : FuncId → Option Nat
  im : Array (String × TypeId) → Bool
  ub : Bool
  lies : TypeId → Nat → Nat → Bool
  mnz : FuncId → Option TypeId
  mp : String → Option (List FieldStep × FuncId × Bool)
  fr : Bool := false

structure TI where
  size : Nat
  bytes : Nat
  zero : Value
  desc : TypeDesc
  ex : TX

noncomputable def TI.eqOk (x : TI) : Bool := x.ex.eqB
noncomputable def TI.meth (x : TI) (name : String) : Option (FuncId × Bool) := x.ex.ms name

/-- A value without an address. -/
noncomputable def closedV : Nat → Value → Bool
  | 0, _ => false
  | _ + 1, .bool _ => true
  | _ + 1, .int _ _ => true
  | _ + 1, .string _ => true
  | _ + 1, .pointer none => true
  | _ + 1, .slice none 0 0 => true
  | _ + 1, .map none => true
  | _ + 1, .nilFunc => true
  | _ + 1, .nilIface => true
  | n + 1, .agg c => c.toList.all (closedV n)
  | n + 1, .tuple c => c.toList.all (closedV n)
  | _, _ => false

theorem closedV_rel (ρ : BMap) : ∀ (n : Nat) (v : Value), closedV n v = true → VRel ρ v v
  | 0, _, h => by cases h
  | n + 1, v, h => by
    unfold closedV at h
    split at h
    · rename_i e; cases e
    · exact .bool _
    · exact .int _ _
    · exact .string _
    · exact .pnil
    · exact .snil
    · exact .mnil
    · exact .fnil
    · exact .inil
    · rename_i m c e
      cases e
      refine .agg rfl fun j v v' hv hv' => ?_
      rw [hv] at hv'; cases hv'
      exact closedV_rel ρ n v (List.all_eq_true.1 h v (by
        have := Array.mem_of_getElem? hv
        simpa using this))
    · rename_i m c e
      cases e
      refine .tuple rfl fun j v v' hv hv' => ?_
      rw [hv] at hv'; cases hv'
      exact closedV_rel ρ n v (List.all_eq_true.1 h v (by
        have := Array.mem_of_getElem? hv
        simpa using this))
    · cases h

theorem closedV_eq {ρ : BMap} : ∀ (n : Nat) (v u : Value), closedV n v = true → VRel ρ v u → u = v
  | 0, v, u, h, _ => by cases h
  | n + 1, v, u, h, hr => by
    unfold closedV at h
    split at h
    · rename_i e; cases e
    · cases hr; rfl
    · cases hr; rfl
    · cases hr; rfl
    · cases hr; rfl
    · cases hr; rfl
    · cases hr; rfl
    · cases hr; rfl
    · cases hr; rfl
    · rename_i m c e
      cases e
      cases hr with
      | agg hs hrel =>
        rename_i c'
        congr 1
        apply Array.ext hs.symm
        intro i h1 h2
        exact closedV_eq n c[i] c'[i] (List.all_eq_true.1 h _ (by simp)) (hrel i _ _ (Array.getElem?_eq_getElem h2) (Array.getElem?_eq_getElem h1))
    · rename_i m c e
      cases e
      cases hr with
      | tuple hs hrel =>
        rename_i c'
        congr 1
        apply Array.ext hs.symm
        intro i h1 h2
        exact closedV_eq n c[i] c'[i] (List.all_eq_true.1 h _ (by simp)) (hrel i _ _ (Array.getElem?_eq_getElem h2) (Array.getElem?_eq_getElem h1))
    · cases h

/-- Whether methods are all there. -/
noncomputable def hasAll (want : Array (String × TypeId)) (got : Array Method) : Bool :=
  want.toList.all fun p => got.any fun m => m.name == p.1 && m.sig == p.2

theorem least_some : ∀ {l : List String}, l ≠ [] → ∃ s, Instr.least l = some s
  | [], h => absurd rfl h
  | _ :: _, _ => ⟨_, rfl⟩

theorem missing_none {want : Array (String × TypeId)} {got : Array Method} (h : hasAll want got = true) : Instr.missingMethod want got = none := by
  have e : (want.toList.filter fun p => !got.any fun m => m.name == p.1 && m.sig == p.2) = [] := by
    rw [List.filter_eq_nil_iff]
    intro p hp
    have := List.all_eq_true.1 h p hp
    simpa using this
  have e' : (want.toList.filter fun (name, sig) => !got.any fun m => m.name == name && m.sig == sig) = [] := e
  unfold Instr.missingMethod
  rw [e']
  rfl

theorem missing_some {want : Array (String × TypeId)} {got : Array Method} (h : hasAll want got = false) : ∃ m, Instr.missingMethod want got = some m := by
  have e : (want.toList.filter fun (name, sig) => !got.any fun m => m.name == name && m.sig == sig) ≠ [] := by
    intro e
    have e' : (want.toList.filter fun p => !got.any fun m => m.name == p.1 && m.sig == p.2) = [] := e
    rw [List.filter_eq_nil_iff] at e'
    have : hasAll want got = true := List.all_eq_true.2 fun p hp => by simpa using e' p hp
    rw [this] at h; cases h
  unfold Instr.missingMethod
  generalize (want.toList.filter fun (name, sig) => !got.any fun m => m.name == name && m.sig == sig) = l at e
  obtain ⟨a, l', rfl⟩ := List.exists_cons_of_ne_nil e
  simp only [List.map_cons]
  generalize hm : a.1 :: List.map (fun x => x.1) l' = names
  have hne : names ≠ [] := by rw [← hm]; simp
  rw [List.partition_eq_filter_filter]
  simp only
  by_cases h1 : names.filter (not ∘ fun x => x.contains '.') = []
  · have h2 : names.filter (fun x => x.contains '.') ≠ [] := by
      intro h2
      rw [List.filter_eq_nil_iff] at h1 h2
      obtain ⟨b, r, rfl⟩ := List.exists_cons_of_ne_nil hne
      have := h1 b List.mem_cons_self
      have := h2 b List.mem_cons_self
      simp_all
    rw [h1]
    obtain ⟨s, hs⟩ := least_some (l := (names.filter (fun x => x.contains '.')).map fun id => (id.splitOn ".").getLastD id) (by simpa using h2)
    exact ⟨s, by simp [Instr.least] at hs ⊢; exact hs⟩
  · obtain ⟨s, hs⟩ := least_some h1
    exact ⟨s, by rw [hs]; rfl⟩

/-- Functions of the library without a text. -/
noncomputable def natRow : Nat → Option (Array Value → Sem Value)
  | 0 => some Extern.BytealgCount.count
  | 1 => some Extern.BytealgIndexByte.indexByte
  | 2 => some Extern.AbiNoEscape.same
  | _ => none

noncomputable def TOk (P : Program) (T : TypeId → Option TI) : Prop :=
  ∀ t x, T t = some x → (∃ i, P.info? t = some i ∧ i.size = x.size ∧ i.bytes = x.bytes ∧ i.zero = some x.zero) ∧ P.underlying t = some x.desc ∧ closedV 6 x.zero = true ∧ x.zero.cells.size = x.size ∧ (x.eqOk = true → P.stoodInHeld t = false ∧ P.eqGuardType P.depth t = false) ∧
    (∀ name f b, x.meth name = some (f, b) → ∃ i m, P.info? t = some i ∧ i.methods.find? (·.name == name) = some m ∧ m.path = #[] ∧ m.func = some (f, b)) ∧
    (x.ex.cm = true → (P.info? t).map (·.comparable) = some true) ∧
    (∀ f n, x.ex.nat f = some n → ∃ fn e, P.funcs[f]? = some fn ∧ (fn.name == "runtime.NumGoroutine") = false ∧ fn.body.isNone = true ∧ Extern.findNext fn = none ∧ Extern.find fn = some e ∧ natRow n = some e) ∧
    (∃ i, P.info? t = some i ∧ ∀ want, x.ex.im want = hasAll want i.methods) ∧
    (∀ ty cells off, x.ex.lies ty cells off = true → liesAt P P.depth ty (cells / P.cellsOf ty) off t 1 = true) ∧
    (∀ f e, x.ex.mnz f = some e → ∃ fn ps r, P.funcs[f]? = some fn ∧ (fn.name == "runtime.NumGoroutine") = false ∧ fn.body.isNone = true ∧ Extern.findNext fn = none ∧ Extern.find fn = some (Extern.BytealgMakeNoZero.makeNoZero ps #[r]) ∧ P.underlying r = some (.slice e)) ∧
    (∀ name path f b, x.ex.mp name = some (path, f, b) → ∃ i m, P.info? t = some i ∧ i.methods.find? (·.name == name) = some m ∧ m.path.toList = path ∧ m.func = some (f, b))

section
variable {P : Program} {T : TypeId → Option TI}

theorem TOk.size (hT : TOk P T) {t : TypeId} {x : TI} (h : T t = some x) (w : World) : (sizeOf t).run P w = .ok x.size w := by
  obtain ⟨⟨i, hi, h1, _, _⟩, _⟩ := hT t x h
  simp [sizeOf, typeInfo, hi, h1]

theorem TOk.under (hT : TOk P T) {t : TypeId} {x : TI} (h : T t = some x) : P.underlying t = some x.desc := (hT t x h).2.1

theorem TOk.zeroV (hT : TOk P T) {t : TypeId} {x : TI} (h : T t = some x) (w : World) : (zeroValue t).run P w = .ok x.zero w := by
  obtain ⟨⟨i, hi, _, _, h3⟩, _⟩ := hT t x h
  simp [zeroValue, typeInfo, hi, h3]

noncomputable def aggD : TypeDesc → Bool
  | .struct _ | .array _ _ => true
  | _ => false

theorem TOk.agg (hT : TOk P T) {t : TypeId} {x : TI} (h : T t = some x) (w : World) : (isAgg t).run P w = .ok (aggD x.desc) w := by
  unfold isAgg
  rw [Sem.run_bind, run_underlying (hT.under h) w]
  cases x.desc <;> rfl
end

/-- Operands. -/
noncomputable def getT : List Value → Nat → Value
  | [], _ => undef
  | v :: _, 0 => v
  | _ :: r, n + 1 => getT r n

theorem getT_eq : ∀ (l : List Value) (n : Nat), getT l n = (l[n]?).getD undef
  | [], n => by simp [getT]
  | v :: r, 0 => by simp [getT]
  | v :: r, n + 1 => by simp [getT, getT_eq r n]

noncomputable def opdL (tm : List Value) : Operand → Option Value
  | .tmp t => some (getT tm t)
  | .const v => if closedV 3 v then some v else none
  | .func f => some (.func (.func f) #[] #[])
  | .global g => if (GV g).isSome then some (.pointer (some ⟨g, 0, some 2⟩)) else none

noncomputable def opd (tm : Tm) : Operand → Option Value
  | .tmp t => some (tm.get t)
  | .const v => if closedV 3 v then some v else none
  | .func f => some (.func (.func f) #[] #[])
  | .global g => if (GV g).isSome then some (.pointer (some ⟨g, 0, some 2⟩)) else none

theorem opd_eq (tm : Tm) : opd tm = opdL tm.list := by
  funext x
  cases x <;> simp only [opd, opdL]
  rw [Tm.get_eq, getT_eq]; rfl

/-- The operands of a frame are the abstract ones. -/
noncomputable def ERel (ρ : BMap) (g : Operand → Option Value) (E : Operand → Value) : Prop := ∀ x v, g x = some v → VRel ρ v (E x)

theorem vrel_undef (ρ : BMap) : VRel ρ undef undef := .tuple rfl (fun j v v' h _ => by simp at h)

theorem ERel.ofL {ρ : BMap} {tm : List Value} {ct : Array Value} (h : LRel ρ tm ct) {E : Operand → Value}
    (h1 : ∀ t, E (.tmp t) = ct.getD t undef) (h2 : ∀ v, E (.const v) = v) (h3 : ∀ f, E (.func f) = .func (.func f) #[] #[]) (h4 : ∀ g, E (.global g) = .pointer (some ⟨g, 0, none⟩)) : ERel ρ (opdL tm) E := by
  intro x v hx
  cases x with
  | tmp t =>
    simp only [opdL, Option.some.injEq] at hx
    subst hx
    rw [h1, getT_eq]
    rcases Nat.lt_or_ge t tm.length with ht | ht
    · have ht' : t < ct.size := by rw [← h.1]; exact ht
      simpa [ht, ht'] using h.2 t tm[t] ct[t] (List.getElem?_eq_getElem ht) (Array.getElem?_eq_getElem ht')
    · have : ¬ t < ct.size := by rw [← h.1]; exact Nat.not_lt.2 ht
      simpa [List.getElem?_eq_none ht, this] using vrel_undef ρ
  | const u =>
    simp only [opdL] at hx
    split at hx
    · cases hx
      rw [h2]; exact closedV_rel ρ 3 _ ‹_›
    · cases hx
  | func f =>
    simp only [opdL, Option.some.injEq] at hx
    subst hx
    rw [h3]; exact .func rfl (fun j v v' h _ => by simp at h)
  | global g =>
    simp only [opdL] at hx
    split at hx
    · cases hx
      rw [h4]; exact .gptr
    · cases hx

theorem ERel.of {ρ : BMap} {tm : Tm} {ct : Array Value} (h : LRel ρ tm.list ct) {E : Operand → Value}
    (h1 : ∀ t, E (.tmp t) = ct.getD t undef) (h2 : ∀ v, E (.const v) = v) (h3 : ∀ f, E (.func f) = .func (.func f) #[] #[]) (h4 : ∀ g, E (.global g) = .pointer (some ⟨g, 0, none⟩)) : ERel ρ (opd tm) E := by
  rw [opd_eq]; exact ERel.ofL h h1 h2 h3 h4

/-! ### Integers -/
noncomputable def wrapI (k : IntKind) (n : Int) : Int :=
  match k with
  | .i64 => let m := n % 18446744073709551616; if m ≥ 9223372036854775808 then m - 18446744073709551616 else m
  | .u64 => n % 18446744073709551616
  | .i32 => let m := n % 4294967296; if m ≥ 2147483648 then m - 4294967296 else m
  | .u32 => n % 4294967296
  | .i16 => let m := n % 65536; if m ≥ 32768 then m - 65536 else m
  | .u16 => n % 65536
  | .i8 => let m := n % 256; if m ≥ 128 then m - 256 else m
  | .u8 => n % 256
theorem wrapI_eq (k : IntKind) (n : Int) : wrapI k n = k.wrap n := by
  cases k <;> simp [wrapI, IntKind.wrap, IntKind.signed, IntKind.bits]

noncomputable def sameK : IntKind → IntKind → Bool
  | .i8, .i8 | .i16, .i16 | .i32, .i32 | .i64, .i64 | .u8, .u8 | .u16, .u16 | .u32, .u32 | .u64, .u64 => true
  | _, _ => false
theorem sameK_eq {a b : IntKind} (h : sameK a b = true) : a = b := by cases a <;> cases b <;> first | rfl | cases h

noncomputable def intOp (op : BinOp) (k : IntKind) (a b : Int) : Option Value :=
  match op with
  | .add => some (.int k (wrapI k (a + b)))
  | .sub => some (.int k (wrapI k (a - b)))
  | .mul => some (.int k (wrapI k (a * b)))
  | .quo => if b = 0 then none else some (.int k (wrapI k (a.tdiv b)))
  | .rem => if b = 0 then none else some (.int k (a.tmod b))
  | .and => some (.int k (bits .and k a b))
  | .or => some (.int k (bits .or k a b))
  | .xor => some (.int k (bits .xor k a b))
  | .andNot => some (.int k (bits .andNot k a b))
  | .eql => some (.bool (a == b))
  | .neq => some (.bool (a != b))
  | .lss => some (.bool (a < b))
  | .leq => some (.bool (a ≤ b))
  | .gtr => some (.bool (a > b))
  | .geq => some (.bool (a ≥ b))
  | _ => none

theorem intOp_sound {P : Program} {op : BinOp} {k : IntKind} {a b : Int} {v : Value} (h : intOp op k a b = some v) (t : TypeId) (w : World) :
    (binOp op t (.int k a) (.int k b)).run P w = .ok v w ∧ ∀ ρ, VRel ρ v v := by
  cases op <;> simp only [intOp, Option.some.injEq] at h
  case shl => cases h
  case shr => cases h
  case quo =>
    split at h
    · cases h
    · cases h; simp_all [go_sem, wrapI_eq]; intro ρ; exact .int _ _
  case rem =>
    split at h
    · cases h
    · cases h; simp_all [go_sem]; intro ρ; exact .int _ _
  all_goals
    subst h
    simp [go_sem, wrapI_eq]
    intro ρ
    first | exact .int _ _ | exact .bool _

noncomputable def shOp (op : BinOp) (k : IntKind) (a b : Int) : Option Value :=
  if b < 0 then none else match op with
  | .shl => some (.int k (wrapI k (a * 2 ^ (min b.toNat k.bits))))
  | .shr => some (.int k (a.fdiv (2 ^ (min b.toNat k.bits))))
  | _ => none

theorem shOp_sound {P : Program} {op : BinOp} {k yk : IntKind} {a b : Int} {v : Value} (h : shOp op k a b = some v) (t : TypeId) (w : World) :
    (binOp op t (.int k a) (.int yk b)).run P w = .ok v w ∧ ∀ ρ, VRel ρ v v := by
  unfold shOp at h
  split at h
  · cases h
  · rename_i hb
    cases op <;> simp only [Option.some.injEq] at h <;> first | cases h | skip
    all_goals (simp [go_sem, Op.shift, hb, wrapI_eq]; intro ρ; exact .int _ _)

/-- A list, written out before it is used. -/
noncomputable def normL {α β : Type} : List α → (List α → β) → β
  | [], k => k []
  | a :: r, k => normL r fun q => k (a :: q)

theorem normL_eq {α β : Type} : ∀ (l : List α) (k : List α → β), normL l k = k l
  | [], _ => rfl
  | _ :: r, _ => normL_eq r _

/-- A part of a string, and two of them, written out. -/
noncomputable def strPart (s : ByteArray) (l h : Nat) : Option Value := normL ((s.data.toList.drop l).take (h - l)) fun x => some (.string ⟨⟨x⟩⟩)
noncomputable def strJoin (a b : ByteArray) : Option Value := normL (a.data.toList ++ b.data.toList) fun x => some (.string ⟨⟨x⟩⟩)

theorem strPart_eq (s : ByteArray) (l h : Nat) : strPart s l h = some (.string (s.extract l h)) := by
  unfold strPart
  rw [normL_eq]
  congr 2
  apply ByteArray.ext
  apply Array.ext'
  simp [ByteArray.data_extract, List.extract_eq_take_drop]

theorem strJoin_eq (a b : ByteArray) : strJoin a b = some (.string (a ++ b)) := by
  unfold strJoin
  rw [normL_eq]
  congr 2

noncomputable def bytesEq (a b : ByteArray) : Bool := a.data.toList.map UInt8.toNat == b.data.toList.map UInt8.toNat
theorem bytesEq_eq (a b : ByteArray) : bytesEq a b = (a.toList == b.toList) := by
  unfold bytesEq
  rw [ByteArray.toList_eq, ByteArray.toList_eq, Bool.eq_iff_iff]
  simp only [beq_iff_eq]
  constructor
  · intro h
    exact (List.map_inj_right (fun x y e => UInt8.toNat_inj.1 e)).1 h
  · intro h; rw [h]

/-- Cells without parts are equal. -/
noncomputable def scEq (T : TypeId → Option TI) (ty : TypeId) (u v : Option Value) : Option Bool :=
  match T ty with
  | some y => match y.desc, u, v with
    | .int _, some (.int k a), some (.int k' b) => if sameK k k' then some (a == b) else none
    | .bool, some (.bool a), some (.bool b) => some (a == b)
    | .string, some (.string a), some (.string b) => some (bytesEq a b)
    | _, _, _ => none
  | none => none

theorem scEq_sound {P : Program} {T : TypeId → Option TI} (hT : TOk P T) {ty : TypeId} {xs ys : Array Value} {off : Nat} {r : Bool} (h : scEq T ty xs[off]? ys[off]? = some r) (d : Nat) (w : World) :
    ∃ u v, (part ty xs off).run P w = .ok u w ∧ (part ty ys off).run P w = .ok v w ∧ (Op.equalIn (d + 1) ty u v).run P w = .ok r w := by
  unfold scEq at h
  split at h
  · rename_i y hy
    have hu := hT.under hy
    have hpart : ∀ (cs : Array Value) (u : Value), aggD y.desc = false → cs[off]? = some u → (part ty cs off).run P w = .ok u w := by
      intro cs u ha hc
      unfold part
      simp only [Sem.run_bind, hT.agg hy w, Result.andThen_ok, ha]
      simp [hc]
    split at h
    · rename_i k0 k a k' b hd h1 h2
      split at h
      · rename_i hk
        have := sameK_eq hk
        subst this
        cases h
        refine ⟨_, _, hpart xs _ (by rw [hd]; rfl) h1, hpart ys _ (by rw [hd]; rfl) h2, ?_⟩
        rw [hd] at hu
        exact run_equalIn_int w d ty k k0 a b hu
      · cases h
    · rename_i a b hd h1 h2
      cases h
      refine ⟨_, _, hpart xs _ (by rw [hd]; rfl) h1, hpart ys _ (by rw [hd]; rfl) h2, ?_⟩
      rw [hd] at hu
      exact run_equalIn_bool' w d ty a b hu
    · rename_i a b hd h1 h2
      cases h
      refine ⟨_, _, hpart xs _ (by rw [hd]; rfl) h1, hpart ys _ (by rw [hd]; rfl) h2, ?_⟩
      rw [hd] at hu
      rw [bytesEq_eq]
      exact run_equalIn_string w d ty a b hu
    · cases h
  · cases h

/-- Parts are equal: what a way to compare them owes. -/
noncomputable def QOk (P : Program) (d : Nat) (q : TypeId → Array Value → Array Value → Nat → Option Bool) : Prop :=
  ∀ (ty : TypeId) (xs ys : Array Value) (off : Nat) (r : Bool) (w : World), q ty xs ys off = some r → ∃ u v, (part ty xs off).run P w = .ok u w ∧ (part ty ys off).run P w = .ok v w ∧ (Op.equalIn d ty u v).run P w = .ok r w

noncomputable def eqFs (q : TypeId → Array Value → Array Value → Nat → Option Bool) (xs ys : Array Value) : List Field → Option Bool
  | [] => some true
  | f :: fs => if f.name == "_" then none else
    match q f.type xs ys f.offset with
    | some true => eqFs q xs ys fs
    | some false => some false
    | none => none

theorem eqFs_sound {P : Program} {d : Nat} {q : TypeId → Array Value → Array Value → Nat → Option Bool} (hq : QOk P d q) {xs ys : Array Value} (w : World) : ∀ (fs : List Field) (r : Bool), eqFs q xs ys fs = some r → (Op.eqFields d xs ys fs).run P w = .ok r w
  | [], r, h => by cases h; simp [Op.eqFields]
  | f :: fs, r, h => by
    unfold eqFs at h
    split at h
    · cases h
    · rename_i hn
      have hn' : f.name ≠ "_" := by simpa using hn
      split at h
      · rename_i hs
        obtain ⟨u, v, p1, p2, p3⟩ := hq _ _ _ _ _ w hs
        simp only [Op.eqFields, hn', ne_eq, not_false_eq_true, if_true, Sem.run_bind, p1, p2, p3, Result.andThen_ok]
        simpa using eqFs_sound hq w fs r h
      · rename_i hs
        cases h
        obtain ⟨u, v, p1, p2, p3⟩ := hq _ _ _ _ _ w hs
        simp only [Op.eqFields, hn', ne_eq, not_false_eq_true, if_true, Sem.run_bind, p1, p2, p3, Result.andThen_ok]
        simp
      · cases h

noncomputable def eqIs (q : TypeId → Array Value → Array Value → Nat → Option Bool) (e : TypeId) (sz : Nat) (xs ys : Array Value) : List Nat → Option Bool
  | [] => some true
  | i :: is => match q e xs ys (i * sz) with
    | some true => eqIs q e sz xs ys is
    | some false => some false
    | none => none

theorem eqIs_sound {P : Program} {d : Nat} {q : TypeId → Array Value → Array Value → Nat → Option Bool} (hq : QOk P d q) {e : TypeId} {sz : Nat} {xs ys : Array Value} (w : World) : ∀ (is : List Nat) (r : Bool), eqIs q e sz xs ys is = some r → (Op.eqItems d e sz xs ys is).run P w = .ok r w
  | [], r, h => by cases h; simp [Op.eqItems]
  | i :: is, r, h => by
    unfold eqIs at h
    split at h
    · rename_i hs
      obtain ⟨u, v, p1, p2, p3⟩ := hq _ _ _ _ _ w hs
      simp only [Op.eqItems, Sem.run_bind, p1, p2, p3, Result.andThen_ok]
      simpa using eqIs_sound hq w is r h
    · rename_i hs
      cases h
      obtain ⟨u, v, p1, p2, p3⟩ := hq _ _ _ _ _ w hs
      simp only [Op.eqItems, Sem.run_bind, p1, p2, p3, Result.andThen_ok]
      simp
    · cases h

/-- Parts that may have parts. -/
noncomputable def eqN (T : TypeId → Option TI) : Nat → TypeId → Array Value → Array Value → Nat → Option Bool
  | 0, ty, xs, ys, off => scEq T ty xs[off]? ys[off]?
  | n + 1, ty, xs, ys, off =>
    match T ty with
    | some y => if aggD y.desc then
        if y.eqOk then
          match y.desc with
          | .struct fs => eqFs (eqN T n) (exA xs off (off + y.size)) (exA ys off (off + y.size)) fs.toList
          | .array k e => match T e with
            | some z => eqIs (eqN T n) e z.size (exA xs off (off + y.size)) (exA ys off (off + y.size)) (List.range k)
            | none => none
          | _ => none
        else none
      else scEq T ty xs[off]? ys[off]?
    | none => none

theorem eqN_ok {P : Program} {T : TypeId → Option TI} (hT : TOk P T) : ∀ (n d : Nat), QOk P (d + n + 1) (eqN T n)
  | 0, d => fun ty xs ys off r w h => scEq_sound hT h d w
  | n + 1, d => by
    intro ty xs ys off r w h
    unfold eqN at h
    split at h
    · rename_i y hy
      have hu := hT.under hy
      split at h
      · rename_i ha
        split at h
        · rename_i he
          have hpart : ∀ cs : Array Value, (part ty cs off).run P w = .ok (.agg (cs.extract off (off + y.size))) w := fun cs => by
            unfold part
            simp only [Sem.run_bind, hT.agg hy w, Result.andThen_ok, ha, if_true, hT.size hy w, Sem.run_pure]
          refine ⟨_, _, hpart xs, hpart ys, ?_⟩
          split at h
          · rename_i fs hd
            rw [hd] at hu
            have hfs : P.fieldsOf ty = fs := by simp [Program.fieldsOf, hu]
            rw [show d + (n + 1) + 1 = (d + n + 1) + 1 by omega, run_equalIn_struct w (d + n + 1) ty _ _ (by rw [hfs]; exact hu) ((hT ty y hy).2.2.2.2.1 he).1, hfs]
            rw [exA_eq, exA_eq] at h
            exact eqFs_sound (eqN_ok hT n d) w _ _ h
          · rename_i k e hd
            rw [hd] at hu
            split at h
            · rename_i z hz
              obtain ⟨⟨i, hi, i1, _⟩, _⟩ := hT e z hz
              have hc : P.cellsOf e = z.size := by simp [Program.cellsOf, hi, i1]
              rw [show d + (n + 1) + 1 = (d + n + 1) + 1 by omega, run_equalIn_array w (d + n + 1) _ _ hu hi, hc]
              rw [exA_eq, exA_eq] at h
              exact eqIs_sound (eqN_ok hT n d) w _ _ h
            · cases h
          · cases h
        · cases h
      · have := scEq_sound hT h (d + (n + 1)) w
        exact this
    · cases h

noncomputable def aEqs (T : TypeId → Option TI) (desc : TypeDesc) (a b : Array Value) : Option Bool :=
  match desc with
  | .struct fs => eqFs (eqN T 3) a b fs.toList
  | .array n e => match T e with
    | some y => eqIs (eqN T 3) e y.size a b (List.range n)
    | none => none
  | _ => none

theorem aEqs_sound {P : Program} {T : TypeId → Option TI} (hT : TOk P T) {t : TypeId} {y : TI} (hy : T t = some y) (ho : P.stoodInHeld t = false) {a b : Array Value} {r : Bool} (h : aEqs T y.desc a b = some r) (w : World) :
    (Op.equalIn 10000 t (.agg a) (.agg b)).run P w = .ok r w := by
  have hu := hT.under hy
  unfold aEqs at h
  split at h
  · rename_i fs hd
    rw [hd] at hu
    have hfs : P.fieldsOf t = fs := by simp [Program.fieldsOf, hu]
    rw [show 10000 = 9999 + 1 from rfl, run_equalIn_struct w 9999 t a b (by rw [hfs]; exact hu) ho, hfs]
    exact eqFs_sound (eqN_ok hT 3 9995) w _ _ h
  · rename_i n e hd
    rw [hd] at hu
    split at h
    · rename_i z hz
      obtain ⟨⟨i, hi, i1, _⟩, _⟩ := hT e z hz
      have hc : P.cellsOf e = z.size := by simp [Program.cellsOf, hi, i1]
      rw [show 10000 = 9999 + 1 from rfl, run_equalIn_array w 9999 a b hu hi, hc]
      exact eqIs_sound (eqN_ok hT 3 9995) w _ _ h
    · cases h
  · cases h

/-- Comparisons with nil. -/
noncomputable def nilEq (T : TypeId → Option TI) (t : TypeId) (u v : Value) : Option Bool :=
  match T t with
  | some y => match y.desc, u, v with
    | .slice _, .slice none 0 0, .slice none 0 0 => some true
    | .slice _, .slice none 0 0, .slice (some ⟨_, _, none⟩) _ _ => some false
    | .slice _, .slice (some ⟨_, _, none⟩) _ _, .slice none 0 0 => some false
    | .slice _, .slice none 0 0, .slice (some ⟨0, 0, some 0⟩) 0 _ => some false
    | .slice _, .slice (some ⟨0, 0, some 0⟩) 0 _, .slice none 0 0 => some false
    | .map _ _, .map none, .map none => some true
    | .map _ _, .map none, .map (some _) => some false
    | .map _ _, .map (some _), .map none => some false
    | .pointer _, .pointer none, .pointer none => some true
    | .pointer _, .pointer none, .pointer (some _) => some false
    | .pointer _, .pointer (some _), .pointer none => some false
    | .func _ _ _, .nilFunc, .nilFunc => some true
    | .func _ _ _, .nilFunc, .func _ _ _ => some false
    | .func _ _ _, .func _ _ _, .nilFunc => some false
    | .interface _, .nilIface, .iface _ _ => some false
    | .interface _, .iface _ _, .nilIface => some false
    | _, _, _ => none
  | none => none

theorem eql_of {P : Program} {t : TypeId} {u v : Value} {r : Bool} {w : World} (h1 : binOp .eql t u v = (do pure (.bool (← Op.equal t u v)))) (h2 : binOp .neq t u v = (do pure (.bool (!(← Op.equal t u v))))) (h : (Op.equalIn (9999 + 1) t u v).run P w = .ok r w) :
    (binOp .eql t u v).run P w = .ok (.bool r) w ∧ (binOp .neq t u v).run P w = .ok (.bool (!r)) w := by
  have e : (Op.equal t u v).run P w = .ok r w := h
  rw [h1, h2]
  exact ⟨by rw [Sem.run_bind, e]; rfl, by rw [Sem.run_bind, e]; rfl⟩

theorem nilEq_sound {P : Program} {T : TypeId → Option TI} (hT : TOk P T) {t : TypeId} {u v u' v' : Value} {r : Bool} (h : nilEq T t u v = some r) {ρ : BMap} (hu : VRel ρ u u') (hv : VRel ρ v v') (x y : Operand) (w : World) :
    (∀ op, eqGuard op t x y u' v' = pure ()) ∧ (binOp .eql t u' v').run P w = .ok (.bool r) w ∧ (binOp .neq t u' v').run P w = .ok (.bool (!r)) w := by
  unfold nilEq at h
  split at h
  · rename_i z hz
    have hd := hT.under hz
    split at h
    all_goals first
      | (cases h; rename_i e; rw [e] at hd; cases hu <;> cases hv <;> exact ⟨fun op => by cases op <;> rfl, eql_of rfl rfl (by rw [Op.equalIn, Sem.run_bind, run_underlying hd w]; rfl)⟩)
      | cases h
  · cases h

/-- Comparisons of numbers in interfaces, and of a pointer with itself. -/
noncomputable def ifEq (T : TypeId → Option TI) (t : TypeId) (u v : Value) : Option Bool :=
  match u, v with
  | .iface s a, .iface s' b => match T t with
    | some y => match y.desc with
      | .interface _ => if Nat.beq s s' then
          match T s with
          | some z => match z.desc, a, b with
            | .int _, .int k m, .int k' n => if z.ex.cm && sameK k k' then some (m == n) else none
            | _, _, _ => none
          | none => none
        else some false
      | _ => none
    | none => none
  | .pointer (some ⟨i, o, none⟩), .pointer (some ⟨j, q, none⟩) => match T t with
    | some y => match y.desc with
      | .pointer e => match T e with
        | some z => if Nat.beq i j && Nat.beq o q && !Nat.beq z.size 0 then some true else none
        | none => none
      | _ => none
    | none => none
  | _, _ => none

theorem ifEq_sound {P : Program} {T : TypeId → Option TI} (hT : TOk P T) {t : TypeId} {u v u' v' : Value} {r : Bool} (h : ifEq T t u v = some r) {ρ : BMap} (hu : VRel ρ u u') (hv : VRel ρ v v') (x y : Operand) (w : World) :
    (∀ op, eqGuard op t x y u' v' = pure ()) ∧ (binOp .eql t u' v').run P w = .ok (.bool r) w ∧ (binOp .neq t u' v').run P w = .ok (.bool (!r)) w := by
  unfold ifEq at h
  split at h
  · rename_i s a s' b
    cases hu; cases hv
    rename_i a' ha b' hb
    refine ⟨fun op => by cases op <;> rfl, ?_⟩
    split at h
    · rename_i z hz
      have hd := hT.under hz
      split at h
      · rename_i ms e
        rw [e] at hd
        split at h
        · rename_i hs
          have := Nat.eq_of_beq_eq_true hs
          subst this
          split at h
          · rename_i y hy
            have hdy := hT.under hy
            split at h
            · rename_i q k m k' n e'
              rw [e'] at hdy
              cases ha; cases hb
              split at h
              · rename_i hc
                simp only [Bool.and_eq_true] at hc
                obtain ⟨hc1, hc2⟩ := hc
                have := sameK_eq hc2
                subst this
                cases h
                have hcm := (hT _ y hy).2.2.2.2.2.2.1 hc1
                cases hi : P.info? s with
                | none => rw [hi] at hcm; cases hcm
                | some i =>
                  have hcc : i.comparable = true := by simpa [hi] using hcm
                  have hg : ∀ d : Nat, (Op.equalIn (d + 2) t (.iface s (.int k m)) (.iface s (.int k n))).run P w = .ok (m == n) w := fun d => by
                    simp [Op.equalIn, run_underlying hd, run_underlying hdy, typeInfo, hi, hcc]
                  exact eql_of rfl rfl (hg 9998)
              · cases h
            · cases h
          · cases h
        · rename_i hs
          cases h
          have hne : ¬ s = s' := fun e => hs (by rw [e]; exact Nat.beq_refl _)
          have hg : ∀ d : Nat, (Op.equalIn (d + 1) t (.iface s a') (.iface s' b')).run P w = .ok false w := fun d => by
            simp [Op.equalIn, run_underlying hd, hne]
          exact eql_of rfl rfl (hg 9999)
      · cases h
    · cases h
  · rename_i i o j q
    split at h
    · rename_i z hz
      have hd := hT.under hz
      split at h
      · rename_i te e
        rw [e] at hd
        split at h
        · rename_i y hy
          split at h
          · rename_i hc
            simp only [Bool.and_eq_true, Bool.not_eq_true'] at hc
            obtain ⟨⟨hc1, hc2⟩, hc3⟩ := hc
            have e1 := Nat.eq_of_beq_eq_true hc1
            have e2 := Nat.eq_of_beq_eq_true hc2
            subst e1; subst e2
            have hsz : ¬ y.size = 0 := fun e => by rw [e] at hc3; simp at hc3
            cases h
            have hsame : u' = v' := by
              cases hu with
              | ptr h1 => cases hv with
                | ptr h2 => rw [h1] at h2; cases h2; rfl
            subst hsame
            obtain ⟨a, rfl⟩ : ∃ a, u' = .pointer (some a) := by cases hu; exact ⟨_, rfl⟩
            obtain ⟨⟨ii, hi, h1, _, _⟩, _⟩ := hT te y hy
            have hg : ∀ d : Nat, (Op.equalIn (d + 1) t (.pointer (some a)) (.pointer (some a))).run P w = .ok true w := fun d => by
              simp [Op.equalIn, run_underlying hd, sizeOf, typeInfo, hi, h1, hsz, run_sameAddr_same]
            exact ⟨fun op => by cases op <;> rfl, eql_of rfl rfl (hg 9999)⟩
          · cases h
        · cases h
      · cases h
    · cases h
  · cases h

/-- The one or the other. -/
noncomputable def cmpEq (T : TypeId → Option TI) (t : TypeId) (u v : Value) : Option Bool :=
  match nilEq T t u v with
  | some r => some r
  | none => ifEq T t u v

theorem cmpEq_sound {P : Program} {T : TypeId → Option TI} (hT : TOk P T) {t : TypeId} {u v u' v' : Value} {r : Bool} (h : cmpEq T t u v = some r) {ρ : BMap} (hu : VRel ρ u u') (hv : VRel ρ v v') (x y : Operand) (w : World) :
    (∀ op, eqGuard op t x y u' v' = pure ()) ∧ (binOp .eql t u' v').run P w = .ok (.bool r) w ∧ (binOp .neq t u' v').run P w = .ok (.bool (!r)) w := by
  unfold cmpEq at h
  split at h
  · rename_i r0 hr0
    cases h
    exact nilEq_sound hT hr0 hu hv x y w
  · exact ifEq_sound hT h hu hv x y w

/-- Operators. -/
noncomputable def aBin (T : TypeId → Option TI) (op : BinOp) (t : TypeId) (u v : Value) : Option Value :=
  match u, v with
  | .int k a, .int k' b =>
    match op with
    | .shl | .shr => shOp op k a b
    | _ => if sameK k k' then intOp op k a b else none
  | .string a, .string b =>
    match op with
    | .eql => some (.bool (bytesEq a b))
    | .neq => some (.bool (!bytesEq a b))
    | .add => if Nat.blt (a.size + b.size) 9223372036854775807 then strJoin a b else none
    | .lss => some (.bool (Op.bytesLess a.data.toList b.data.toList))
    | .gtr => some (.bool (!(Op.bytesLess a.data.toList b.data.toList || bytesEq a b)))
    | .leq => some (.bool (Op.bytesLess a.data.toList b.data.toList || bytesEq a b))
    | .geq => some (.bool (!Op.bytesLess a.data.toList b.data.toList))
    | _ => none
  | .bool a, .bool b =>
    match T t with
    | some { desc := .bool, .. } =>
      match op with
      | .eql => some (.bool (a == b))
      | .neq => some (.bool (!(a == b)))
      | _ => none
    | _ => none
  | .agg a, .agg b =>
    match T t with
    | some y => if y.eqOk && closedV 3 (.agg a) && closedV 3 (.agg b) then
        match aEqs T y.desc a b with
        | some r => match op with
          | .eql => some (.bool r)
          | .neq => some (.bool (!r))
          | _ => none
        | none => none
      else none
    | none => none
  | u, v => match cmpEq T t u v with
    | some r => match op with
      | .eql => some (.bool r)
      | .neq => some (.bool (!r))
      | _ => none
    | none => none

theorem aBin_sound {P : Program} {T : TypeId → Option TI} (hT : TOk P T) {op : BinOp} {t : TypeId} {u v r u' v' : Value} (h : aBin T op t u v = some r) {ρ : BMap} (hu : VRel ρ u u') (hv : VRel ρ v v') (x y : Operand) (w : World) :
    (do eqGuard op t x y u' v'; binOp op t u' v' : Sem Value).run P w = .ok r w ∧ VRel ρ r r := by
  unfold aBin at h
  split at h
  · -- integers
    cases hu; cases hv
    rw [eqGuard_at_int, pure_bind]
    have key : ∀ op' k a k' b, (if sameK k k' then intOp op' k a b else none) = some r → (binOp op' t (.int k a) (.int k' b)).run P w = .ok r w ∧ VRel ρ r r := by
      intro op' k a k' b hh
      split at hh
      · rename_i hk
        have := sameK_eq hk
        subst this
        obtain ⟨h1, h2⟩ := intOp_sound (P := P) hh t w
        exact ⟨h1, h2 ρ⟩
      · cases hh
    cases op <;> first
      | exact ⟨(shOp_sound (P := P) h t w).1, (shOp_sound (P := P) (yk := .i64) h t w).2 ρ⟩
      | exact key _ _ _ _ _ h
  · -- strings
    cases hu; cases hv
    rw [eqGuard_at_string, pure_bind]
    cases op <;> simp only [Option.some.injEq] at h <;> first | cases h | skip
    case add =>
      split at h
      · rename_i a b hlt
        rw [strJoin_eq] at h
        cases h
        refine ⟨?_, .string _⟩
        rw [Nat.blt_eq] at hlt
        have : ¬ (9223372036854775807 < ((a.size : Int) + (b.size : Int))) := by omega
        simp [binOp, Op.stringOp, this]
      · cases h
    all_goals exact ⟨by simp [binOp, Op.stringOp, bytesEq_eq, ByteArray.toList_eq], .bool _⟩
  · -- bools
    cases hu; cases hv
    rw [eqGuard_at_bool, pure_bind]
    split at h
    · rename_i hTt
      have hb := hT.under hTt
      cases op <;> simp only [Option.some.injEq] at h <;> first | cases h | skip
      all_goals exact ⟨by simp [binOp, run_equal_bool w t _ _ hb], .bool _⟩
    · cases h
  · -- aggregates
    rename_i a b
    split at h
    · rename_i z hy
      split at h
      · rename_i hc
        simp only [Bool.and_eq_true] at hc
        obtain ⟨⟨hc1, hc2⟩, hc3⟩ := hc
        obtain ⟨ho1, ho2⟩ := (hT t z hy).2.2.2.2.1 hc1
        have e1 := closedV_eq 3 _ _ hc2 hu
        have e2 := closedV_eq 3 _ _ hc3 hv
        subst e1; subst e2
        split at h
        · rename_i b0 hb0
          have hrun := aEqs_sound hT hy ho1 hb0 w
          cases op <;> simp only [Option.some.injEq] at h <;> first | cases h | skip
          · refine ⟨?_, .bool _⟩
            rw [Sem.run_bind, run_eqGuard_agg w .eql t x y a b ho2, Result.andThen_ok, run_eql_struct, hrun, Result.andThen_ok]
          · refine ⟨?_, .bool _⟩
            rw [Sem.run_bind, run_eqGuard_agg w .neq t x y a b ho2, Result.andThen_ok, run_neq_struct, hrun, Result.andThen_ok]
        · cases h
      · cases h
    · cases h
  · split at h
    · rename_i r0 hr0
      obtain ⟨g1, g2, g3⟩ := cmpEq_sound (P := P) hT hr0 hu hv x y w
      cases op <;> simp only [Option.some.injEq] at h <;> first | cases h | skip
      · exact ⟨by rw [g1, pure_bind]; exact g2, .bool _⟩
      · exact ⟨by rw [g1, pure_bind]; exact g3, .bool _⟩
    · cases h

end Go.Proofs.Ytjginpeoblilpaa
