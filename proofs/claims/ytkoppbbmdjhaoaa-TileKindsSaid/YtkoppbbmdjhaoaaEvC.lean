/-
  What is proved: nothing of the program. This text holds the operations that touch no memory: on abstract values, and that the model's operations do the same.
-/
import Derived.Test.YtkoppbbmdjhaoaaEvB
import Derived.WalkLawsBesides
namespace Go.Proofs.Ytkoppbbmdjhaoaa
open Go.RowKit

structure TI where
  size : Nat
  bytes : Nat
  zero : Value
  desc : TypeDesc

/-- A value without an address. -/
def closedV : Nat → Value → Bool
  | 0, _ => false
  | _ + 1, .bool _ => true
  | _ + 1, .int _ _ => true
  | _ + 1, .string _ => true
  | _ + 1, .pointer none => true
  | _ + 1, .slice none 0 0 => true
  | _ + 1, .map none => true
  | _ + 1, .nilFunc => true
  | _ + 1, .nilIface => true
  | n + 1, .agg c => c.toList.all (closedV n)
  | n + 1, .tuple c => c.toList.all (closedV n)
  | _, _ => false

theorem closedV_rel (ρ : BMap) : ∀ (n : Nat) (v : Value), closedV n v = true → VRel ρ v v
  | 0, _, h => by cases h
  | n + 1, v, h => by
    unfold closedV at h
    split at h
    · rename_i e; cases e
    · exact .bool _
    · exact .int _ _
    · exact .string _
    · exact .pnil
    · exact .snil
    · exact .mnil
    · exact .fnil
    · exact .inil
    · rename_i m c e
      cases e
      refine .agg rfl fun j v v' hv hv' => ?_
      rw [hv] at hv'; cases hv'
      exact closedV_rel ρ n v (List.all_eq_true.1 h v (by
        have := Array.mem_of_getElem? hv
        simpa using this))
    · rename_i m c e
      cases e
      refine .tuple rfl fun j v v' hv hv' => ?_
      rw [hv] at hv'; cases hv'
      exact closedV_rel ρ n v (List.all_eq_true.1 h v (by
        have := Array.mem_of_getElem? hv
        simpa using this))
    · cases h

def TOk (P : Program) (T : TypeId → Option TI) : Prop :=
  ∀ t x, T t = some x → (∃ i, P.info? t = some i ∧ i.size = x.size ∧ i.bytes = x.bytes ∧ i.zero = some x.zero) ∧ P.underlying t = some x.desc ∧ closedV 6 x.zero = true ∧ x.zero.cells.size = x.size

section
variable {P : Program} {T : TypeId → Option TI}

theorem TOk.size (hT : TOk P T) {t : TypeId} {x : TI} (h : T t = some x) (w : World) : (sizeOf t).run P w = .ok x.size w := by
  obtain ⟨⟨i, hi, h1, _, _⟩, _⟩ := hT t x h
  simp [sizeOf, typeInfo, hi, h1]

theorem TOk.under (hT : TOk P T) {t : TypeId} {x : TI} (h : T t = some x) : P.underlying t = some x.desc := (hT t x h).2.1

theorem TOk.zeroV (hT : TOk P T) {t : TypeId} {x : TI} (h : T t = some x) (w : World) : (zeroValue t).run P w = .ok x.zero w := by
  obtain ⟨⟨i, hi, _, _, h3⟩, _⟩ := hT t x h
  simp [zeroValue, typeInfo, hi, h3]

def aggD : TypeDesc → Bool
  | .struct _ | .array _ _ => true
  | _ => false

theorem TOk.agg (hT : TOk P T) {t : TypeId} {x : TI} (h : T t = some x) (w : World) : (isAgg t).run P w = .ok (aggD x.desc) w := by
  unfold isAgg
  rw [Sem.run_bind, run_underlying (hT.under h) w]
  cases x.desc <;> rfl
end

/-- Operands. -/
def getT : List Value → Nat → Value
  | [], _ => undef
  | v :: _, 0 => v
  | _ :: r, n + 1 => getT r n

theorem getT_eq : ∀ (l : List Value) (n : Nat), getT l n = (l[n]?).getD undef
  | [], n => by simp [getT]
  | v :: r, 0 => by simp [getT]
  | v :: r, n + 1 => by simp [getT, getT_eq r n]

def opd (tm : List Value) : Operand → Option Value
  | .tmp t => some (getT tm t)
  | .const v => if closedV 3 v then some v else none
  | .func f => some (.func (.func f) #[] #[])
  | .global _ => none

/-- The operands of a frame are the abstract ones. -/
def ERel (ρ : BMap) (g : Operand → Option Value) (E : Operand → Value) : Prop := ∀ x v, g x = some v → VRel ρ v (E x)

theorem vrel_undef (ρ : BMap) : VRel ρ undef undef := .tuple rfl (fun j v v' h _ => by simp at h)

theorem ERel.of {ρ : BMap} {tm : List Value} {ct : Array Value} (h : LRel ρ tm ct) {E : Operand → Value}
    (h1 : ∀ t, E (.tmp t) = ct.getD t undef) (h2 : ∀ v, E (.const v) = v) (h3 : ∀ f, E (.func f) = .func (.func f) #[] #[]) : ERel ρ (opd tm) E := by
  intro x v hx
  cases x with
  | tmp t =>
    simp only [opd, Option.some.injEq] at hx
    subst hx
    rw [h1, getT_eq]
    rcases Nat.lt_or_ge t tm.length with ht | ht
    · have ht' : t < ct.size := by rw [← h.1]; exact ht
      simpa [ht, ht'] using h.2 t tm[t] ct[t] (List.getElem?_eq_getElem ht) (Array.getElem?_eq_getElem ht')
    · have : ¬ t < ct.size := by rw [← h.1]; exact Nat.not_lt.2 ht
      simpa [List.getElem?_eq_none ht, this] using vrel_undef ρ
  | const u =>
    simp only [opd] at hx
    split at hx
    · cases hx
      rw [h2]; exact closedV_rel ρ 3 _ ‹_›
    · cases hx
  | func f =>
    simp only [opd, Option.some.injEq] at hx
    subst hx
    rw [h3]; exact .func rfl (fun j v v' h _ => by simp at h)
  | global g => cases hx

/-! ### Integers -/
def wrapI (k : IntKind) (n : Int) : Int :=
  match k with
  | .i64 => let m := n % 18446744073709551616; if m ≥ 9223372036854775808 then m - 18446744073709551616 else m
  | .u64 => n % 18446744073709551616
  | .i32 => let m := n % 4294967296; if m ≥ 2147483648 then m - 4294967296 else m
  | .u32 => n % 4294967296
  | .i16 => let m := n % 65536; if m ≥ 32768 then m - 65536 else m
  | .u16 => n % 65536
  | .i8 => let m := n % 256; if m ≥ 128 then m - 256 else m
  | .u8 => n % 256
theorem wrapI_eq (k : IntKind) (n : Int) : wrapI k n = k.wrap n := by
  cases k <;> simp [wrapI, IntKind.wrap, IntKind.signed, IntKind.bits]

def sameK : IntKind → IntKind → Bool
  | .i8, .i8 | .i16, .i16 | .i32, .i32 | .i64, .i64 | .u8, .u8 | .u16, .u16 | .u32, .u32 | .u64, .u64 => true
  | _, _ => false
theorem sameK_eq {a b : IntKind} (h : sameK a b = true) : a = b := by cases a <;> cases b <;> first | rfl | cases h

def intOp (op : BinOp) (k : IntKind) (a b : Int) : Option Value :=
  match op with
  | .add => some (.int k (wrapI k (a + b)))
  | .sub => some (.int k (wrapI k (a - b)))
  | .mul => some (.int k (wrapI k (a * b)))
  | .quo => if b = 0 then none else some (.int k (wrapI k (a.tdiv b)))
  | .rem => if b = 0 then none else some (.int k (a.tmod b))
  | .and => some (.int k (bits .and k a b))
  | .or => some (.int k (bits .or k a b))
  | .xor => some (.int k (bits .xor k a b))
  | .andNot => some (.int k (bits .andNot k a b))
  | .eql => some (.bool (a == b))
  | .neq => some (.bool (a != b))
  | .lss => some (.bool (a < b))
  | .leq => some (.bool (a ≤ b))
  | .gtr => some (.bool (a > b))
  | .geq => some (.bool (a ≥ b))
  | _ => none

theorem intOp_sound {P : Program} {op : BinOp} {k : IntKind} {a b : Int} {v : Value} (h : intOp op k a b = some v) (t : TypeId) (w : World) :
    (binOp op t (.int k a) (.int k b)).run P w = .ok v w ∧ ∀ ρ, VRel ρ v v := by
  cases op <;> simp only [intOp, Option.some.injEq] at h
  case shl => cases h
  case shr => cases h
  case quo =>
    split at h
    · cases h
    · cases h; simp_all [go_sem, wrapI_eq]; intro ρ; exact .int _ _
  case rem =>
    split at h
    · cases h
    · cases h; simp_all [go_sem]; intro ρ; exact .int _ _
  all_goals
    subst h
    simp [go_sem, wrapI_eq]
    intro ρ
    first | exact .int _ _ | exact .bool _

def shOp (op : BinOp) (k : IntKind) (a b : Int) : Option Value :=
  if b < 0 then none else match op with
  | .shl => some (.int k (wrapI k (a * 2 ^ (min b.toNat k.bits))))
  | .shr => some (.int k (a.fdiv (2 ^ (min b.toNat k.bits))))
  | _ => none

theorem shOp_sound {P : Program} {op : BinOp} {k yk : IntKind} {a b : Int} {v : Value} (h : shOp op k a b = some v) (t : TypeId) (w : World) :
    (binOp op t (.int k a) (.int yk b)).run P w = .ok v w ∧ ∀ ρ, VRel ρ v v := by
  unfold shOp at h
  split at h
  · cases h
  · rename_i hb
    cases op <;> simp only [Option.some.injEq] at h <;> first | cases h | skip
    all_goals (simp [go_sem, Op.shift, hb, wrapI_eq]; intro ρ; exact .int _ _)

def bytesEq (a b : ByteArray) : Bool := a.data.toList.map UInt8.toNat == b.data.toList.map UInt8.toNat
theorem bytesEq_eq (a b : ByteArray) : bytesEq a b = (a.toList == b.toList) := by
  unfold bytesEq
  rw [ByteArray.toList_eq, ByteArray.toList_eq, Bool.eq_iff_iff]
  simp only [beq_iff_eq]
  constructor
  · intro h
    exact (List.map_inj_right (fun x y e => UInt8.toNat_inj.1 e)).1 h
  · intro h; rw [h]

/-- Operators. -/
def aBin (T : TypeId → Option TI) (op : BinOp) (t : TypeId) (u v : Value) : Option Value :=
  match u, v with
  | .int k a, .int k' b =>
    match op with
    | .shl | .shr => shOp op k a b
    | _ => if sameK k k' then intOp op k a b else none
  | .string a, .string b =>
    match op with
    | .eql => some (.bool (bytesEq a b))
    | .neq => some (.bool (!bytesEq a b))
    | .add => if a.size + b.size < 9223372036854775807 then some (.string (a ++ b)) else none
    | _ => none
  | .bool a, .bool b =>
    match T t with
    | some { desc := .bool, .. } =>
      match op with
      | .eql => some (.bool (a == b))
      | .neq => some (.bool (!(a == b)))
      | _ => none
    | _ => none
  | _, _ => none

theorem aBin_sound {P : Program} {T : TypeId → Option TI} (hT : TOk P T) {op : BinOp} {t : TypeId} {u v r u' v' : Value} (h : aBin T op t u v = some r) {ρ : BMap} (hu : VRel ρ u u') (hv : VRel ρ v v') (x y : Operand) (w : World) :
    (do eqGuard op t x y u' v'; binOp op t u' v' : Sem Value).run P w = .ok r w ∧ VRel ρ r r := by
  unfold aBin at h
  split at h
  · -- integers
    cases hu; cases hv
    rw [eqGuard_at_int, pure_bind]
    have key : ∀ op' k a k' b, (if sameK k k' then intOp op' k a b else none) = some r → (binOp op' t (.int k a) (.int k' b)).run P w = .ok r w ∧ VRel ρ r r := by
      intro op' k a k' b hh
      split at hh
      · rename_i hk
        have := sameK_eq hk
        subst this
        obtain ⟨h1, h2⟩ := intOp_sound (P := P) hh t w
        exact ⟨h1, h2 ρ⟩
      · cases hh
    cases op <;> first
      | exact ⟨(shOp_sound (P := P) h t w).1, (shOp_sound (P := P) (yk := .i64) h t w).2 ρ⟩
      | exact key _ _ _ _ _ h
  · -- strings
    cases hu; cases hv
    rw [eqGuard_at_string, pure_bind]
    cases op <;> simp only [Option.some.injEq] at h <;> first | cases h | skip
    case add =>
      split at h
      · rename_i a b hlt
        cases h
        refine ⟨?_, .string _⟩
        have : ¬ (9223372036854775807 < ((a.size : Int) + (b.size : Int))) := by omega
        simp [binOp, Op.stringOp, this]
      · cases h
    all_goals exact ⟨by simp [binOp, Op.stringOp, bytesEq_eq], .bool _⟩
  · -- bools
    cases hu; cases hv
    rw [eqGuard_at_bool, pure_bind]
    split at h
    · rename_i hTt
      have hb := hT.under hTt
      cases op <;> simp only [Option.some.injEq] at h <;> first | cases h | skip
      all_goals exact ⟨by simp [binOp, run_equal_bool w t _ _ hb], .bool _⟩
    · cases h
  · cases h

end Go.Proofs.Ytkoppbbmdjhaoaa
