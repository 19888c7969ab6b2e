/-
  What is proved: nothing of the program. This text holds a region whose order is drawn: which operations stand before which, and the abstract run.
-/
import Derived.Test.YtjginpeoblilpaaEvK
import Derived.Orders
import Derived.WideShapes
namespace Go.Proofs.Ytjginpeoblilpaa
open Go.RowKit
set_option linter.unusedSimpArgs false
set_option linter.unusedVariables false

/-! ### Before -/
noncomputable def mask1 (acc : List Nat) (s : Nat) (e : Edge) : Nat := if Region.binds .any e then s ||| (1 <<< e.on) ||| acc.getD e.on 0 else s
noncomputable def maskOf (acc : List Nat) (o : Oper) : Nat := o.after.toList.foldl (mask1 acc) 0
noncomputable def befsFrom (acc : List Nat) : List Oper → List Nat
  | [] => acc
  | o :: r => befsFrom (acc ++ [maskOf acc o]) r
noncomputable def befs (l : List Oper) : List Nat := befsFrom [] l

theorem mask_spec (acc : List Nat) (j : Nat) : ∀ (l : List Edge) (s : Nat), (l.foldl (mask1 acc) s).testBit j = true →
    s.testBit j = true ∨ ∃ e ∈ l, Region.binds .any e = true ∧ (e.on = j ∨ (acc.getD e.on 0).testBit j = true)
  | [], s, h => .inl h
  | e :: r, s, h => by
    rw [List.foldl_cons] at h
    rcases mask_spec acc j r _ h with h1 | ⟨e', he', h2⟩
    · unfold mask1 at h1
      split at h1
      · rename_i hb
        simp only [Nat.testBit_or, Bool.or_eq_true] at h1
        rcases h1 with (h1 | h1) | h1
        · exact .inl h1
        · refine .inr ⟨e, List.mem_cons_self, hb, .inl ?_⟩
          rw [Nat.one_shiftLeft, Nat.testBit_two_pow] at h1
          simpa using h1
        · exact .inr ⟨e, List.mem_cons_self, hb, .inr h1⟩
      · exact .inl h1
    · exact .inr ⟨e', List.mem_cons_of_mem _ he', h2⟩

theorem befsFrom_spec : ∀ (l : List Oper) (acc : List Nat), (befsFrom acc l).length = acc.length + l.length ∧ (∀ i, i < acc.length → (befsFrom acc l)[i]? = acc[i]?) ∧
    ∀ (i : Nat) (o : Oper), l[i]? = some o → (befsFrom acc l)[acc.length + i]? = some (maskOf ((befsFrom acc l).take (acc.length + i)) o)
  | [], acc => ⟨by simp [befsFrom], fun i hi => rfl, fun i o h => by simp at h⟩
  | o :: r, acc => by
    obtain ⟨h1, h2, h3⟩ := befsFrom_spec r (acc ++ [maskOf acc o])
    simp only [befsFrom]
    have hlen : (acc ++ [maskOf acc o]).length = acc.length + 1 := by simp
    refine ⟨by rw [h1]; simp; omega, fun i hi => ?_, fun i q hq => ?_⟩
    · rw [h2 i (by simp; omega), List.getElem?_append_left hi]
    · cases i with
      | zero =>
        simp only [List.getElem?_cons_zero, Option.some.injEq] at hq
        subst hq
        rw [Nat.add_zero, h2 acc.length (by simp)]
        have : (befsFrom (acc ++ [maskOf acc o]) r).take acc.length = acc := by
          apply List.ext_getElem?
          intro q
          rw [List.getElem?_take]
          split
          · rename_i hq
            rw [h2 q (by simp; omega), List.getElem?_append_left hq]
          · rename_i hq
            rw [List.getElem?_eq_none (by omega)]
        rw [this]; simp
      | succ i =>
        have := h3 i q (by simpa using hq)
        rw [hlen] at this
        rw [show acc.length + (i + 1) = acc.length + 1 + i by omega]
        exact this

/-- What stands before an operation, and has been carried out with it. -/
noncomputable def Down (ops : Array Oper) (D : Nat → Bool) : Prop := ∀ i o, ops[i]? = some o → D i = true → ∀ e ∈ o.after.toList, Region.binds .any e = true → D e.on = true

theorem bef_in {ops : Array Oper} {D : Nat → Bool} (hD : Down ops D) : ∀ (i : Nat) (o : Oper), ops[i]? = some o → (∀ e ∈ o.after.toList, Region.binds .any e = true → D e.on = true) →
    ∀ j, ((befs ops.toList).getD i 0).testBit j = true → D j = true := by
  intro i
  induction i using Nat.strongRecOn with
  | _ i ih =>
    intro o ho hpre j hj
    obtain ⟨h1, h2, h3⟩ := befsFrom_spec ops.toList []
    have h4 := h3 i o (by simpa using ho)
    simp only [List.length_nil, Nat.zero_add] at h4
    have hm : (befs ops.toList).getD i 0 = maskOf ((befs ops.toList).take i) o := by
      unfold befs
      rw [List.getD_eq_getElem?_getD, h4]; rfl
    rw [hm] at hj
    rcases mask_spec _ j _ _ hj with h | ⟨e, he, hb, h⟩
    · simp at h
    · rcases h with rfl | h
      · exact hpre e he hb
      · have hlt : e.on < i := by
          rcases Nat.lt_or_ge e.on i with hlt | hlt
          · exact hlt
          · rw [List.getD_eq_getElem?_getD, List.getElem?_take, if_neg (by omega)] at h
            simp at h
        have hDe := hpre e he hb
        have hlen : i < ops.size := (Array.getElem?_eq_some_iff.1 ho).1
        have hoe : ops[e.on]? = some ops[e.on] := Array.getElem?_eq_getElem (by omega)
        refine ih e.on hlt _ hoe (fun e' he' hb' => hD e.on _ hoe hDe e' he' hb') j ?_
        rw [List.getD_eq_getElem?_getD, List.getElem?_take_of_lt hlt] at h
        rw [List.getD_eq_getElem?_getD]
        exact h

/-! ### The abstract run -/
structure DR where
  i : Nat
  o : Oper
  ts : List Nat
  v : Value
  kind : Nat
  lo : Nat
  hi : Nat
  nb : List (Nat × ABlk)
  rd : AH → Option (Value × AH) := fun _ => none

/-- The last value of a temporary. -/
noncomputable def tv (tm : Tm) (D : Nat → Bool) : List DR → Nat → Value
  | [], t => tm.get t
  | r :: rs, t => if D r.i && (match r.o.dst with | some d => Nat.beq d t | none => false) then r.v else tv tm D rs t

/-- The temporaries behind the operations so far. -/
noncomputable def finT (tm : Tm) : List DR → Tm
  | [] => tm
  | r :: rs => match r.o.dst with
    | some d => (finT tm rs).set d r.v
    | none => finT tm rs

noncomputable def all1 : Nat → Bool := fun _ => true

noncomputable def natMem : List Nat → Nat → Bool
  | [], _ => false
  | a :: r, n => if Nat.beq a n then true else natMem r n

noncomputable def gOf (tm : Tm) (rs : List DR) (ts : List Nat) : Operand → Option Value
  | .tmp t => if natMem ts t then some ((finT tm rs).get t) else none
  | x => opd Tm.nil x

noncomputable def tmpsOf : List Operand → List Nat
  | [] => []
  | .tmp t :: r => t :: tmpsOf r
  | _ :: r => tmpsOf r

noncomputable def guardT (ops : Array Oper) (o : Oper) : Option Tmp :=
  match o.guard with
  | some (j, _) => (ops[j]?).bind (·.dst)
  | none => none

noncomputable def looks (ops : Array Oper) (o : Oper) : List Nat :=
  match guardT ops o with
  | some t => t :: tmpsOf o.op.operands.toList
  | none => tmpsOf o.op.operands.toList

noncomputable def wantedR (ops : Array Oper) (tm : Tm) (rs : List DR) (o : Oper) : Bool :=
  match o.guard with
  | none => true
  | some (_, want) =>
    match guardT ops o with
    | some t => match (finT tm rs).get t with
      | .bool b => b == want
      | _ => false
    | none => false

/-- What is left of a block where nothing is written. -/
noncomputable def roK : ABlk → Option ABlk
  | .cellsT _ cs ty => some (.cellsT true cs ty)
  | .tcells _ cs _ => some (.cells true cs)
  | .fro cs => some (.cells true cs)
  | .ints g => some (.ints g)
  | .amap _ es => some (.amap true es)
  | _ => none

noncomputable def roB : List (Nat × ABlk) → List (Nat × ABlk)
  | [] => []
  | (i, k) :: r => match roK k with
    | some k' => (i, k') :: roB r
    | none => roB r

noncomputable def news (keep : Nat → Bool) : List DR → List (Nat × ABlk)
  | [] => []
  | r :: rs => if Nat.beq r.kind 1 && keep r.i then r.nb ++ news keep rs else news keep rs

/-- The heap that a writing operation finds. -/
noncomputable def wheap (bs0 : List (Nat × ABlk)) (rs : List DR) : List (Nat × ABlk) :=
  match rs.find? (fun r => Nat.beq r.kind 2) with
  | some r => r.nb
  | none => news all1 rs ++ bs0

noncomputable def newOnes (lo : Nat) : List (Nat × ABlk) → List (Nat × ABlk)
  | [] => []
  | (i, k) :: r => if Nat.ble lo i then (i, k) :: newOnes lo r else []

noncomputable def ABlk.own (k : ABlk) : Bool := k.rw && !k.isFro
noncomputable def decr : List (Nat × ABlk) → Bool
  | (i, k) :: (j, k') :: r => Nat.blt j i && k.own && decr ((j, k') :: r)
  | [(_, k)] => k.own
  | [] => true

noncomputable def decrK : List (Nat × ABlk) → Bool
  | (i, _) :: (j, k') :: r => Nat.blt j i && decrK ((j, k') :: r)
  | _ => true

/-- Values that are equal. -/
noncomputable def eqR : Nat → Value → Value → Bool
  | _ + 1, .int k n, .int k' m => sameK k k' && n == m
  | _ + 1, .bool a, .bool b => a == b
  | _ + 1, .slice none 0 0, .slice none 0 0 => true
  | _ + 1, .pointer none, .pointer none => true
  | _ + 1, .map none, .map none => true
  | _ + 1, .map (some a), .map (some b) => Nat.beq a b
  | _ + 1, .nilFunc, .nilFunc => true
  | _ + 1, .nilIface, .nilIface => true
  | _ + 1, .func (.func f) ⟨[]⟩ ⟨[]⟩, .func (.func g) ⟨[]⟩ ⟨[]⟩ => Nat.beq f g
  | _ + 1, .pointer (some ⟨a, o, none⟩), .pointer (some ⟨b, p, none⟩) => Nat.beq a b && Nat.beq o p
  | _ + 1, .slice (some ⟨a, o, none⟩) l s, .slice (some ⟨b, p, none⟩) m t => Nat.beq a b && Nat.beq o p && Nat.beq l m && Nat.beq s t
  | n + 1, .agg a, .agg b => eqA (eqR n) a.toList b.toList
  | n + 1, .tuple a, .tuple b => eqA (eqR n) a.toList b.toList
  | _ + 1, .string a, .string b => bytesEq a b
  | _, _, _ => false
where
  eqA (e : Value → Value → Bool) : List Value → List Value → Bool
    | [], [] => true
    | x :: xs, y :: ys => e x y && eqA e xs ys
    | _, _ => false

theorem eqA_sound {e : Value → Value → Bool} (he : ∀ x y, e x y = true → x = y) : ∀ (l s : List Value), eqR.eqA e l s = true → l = s
  | [], [], _ => rfl
  | [], _ :: _, h => by cases h
  | _ :: _, [], h => by cases h
  | x :: xs, y :: ys, h => by
    simp only [eqR.eqA, Bool.and_eq_true] at h
    rw [he x y h.1, eqA_sound he xs ys h.2]

theorem eqR_sound : ∀ (n : Nat) (x y : Value), eqR n x y = true → x = y
  | 0, x, y, h => by simp [eqR] at h
  | n + 1, x, y, h => by
    unfold eqR at h
    split at h
    · simp only [Bool.and_eq_true] at h
      rw [sameK_eq h.1, eq_of_beq h.2]
    · rw [eq_of_beq h]
    · rfl
    · rfl
    · rfl
    · rw [Nat.eq_of_beq_eq_true h]
    · rfl
    · rfl
    · rw [Nat.eq_of_beq_eq_true h]
    · simp only [Bool.and_eq_true] at h
      rw [Nat.eq_of_beq_eq_true h.1, Nat.eq_of_beq_eq_true h.2]
    · simp only [Bool.and_eq_true] at h
      obtain ⟨⟨⟨h1, h2⟩, h3⟩, h4⟩ := h
      rw [Nat.eq_of_beq_eq_true h1, Nat.eq_of_beq_eq_true h2, Nat.eq_of_beq_eq_true h3, Nat.eq_of_beq_eq_true h4]
    · rename_i a b e
      cases e
      have := eqA_sound (eqR_sound n) _ _ h
      congr 1
      exact Array.toList_inj.1 this
    · rename_i a b e
      cases e
      have := eqA_sound (eqR_sound n) _ _ h
      congr 1
      exact Array.toList_inj.1 this
    · rw [bytesEq_eq, ByteArray.toList_eq, ByteArray.toList_eq] at h
      congr 1
      exact Go.WideShapes.bytes_inj (eq_of_beq h)
    · cases h

/-- What a reading operation reads in a memory is what it has read. -/
noncomputable def rdSame (x : DR) (bs : List (Nat × ABlk)) : Bool :=
  decrK bs && match x.rd { next := x.lo, bs := roB bs } with
  | some (v, H') => eqR 5 v x.v && Nat.ble H'.next x.hi
  | none => false

noncomputable def isNil : List (Nat × ABlk) → Bool
  | [] => true
  | _ => false

noncomputable def writesF (g : Operand → Option Value) (o : Oper) : Bool :=
  match o.op with
  | .store .. | .mapUpdate .. | .insert .. | .next .. => true
  | .call { callee := .value f, .. } => match g f with
    | some (.func (.func id) _ _) => wrT id
    | some (.func (.yield _) _ _) => true
    | _ => false
  | _ => false

noncomputable def topHi : List DR → Nat → Nat
  | [], n => n
  | y :: _, _ => y.hi

section
variable (T : TypeId → Option TI) (call : Value → List Value → AH → Option (Value × AH)) (ops : Array Oper) (tm : Tm) (bs0 : List (Nat × ABlk)) (n0 : Nat)

/-- A reading operation. -/
noncomputable def dr3 (rs : List DR) (i : Nat) (o : Oper) (lo : Nat) (ts : List Nat) : Option DR :=
  match evOp T call o (gOf tm rs ts) { next := lo, bs := roB bs0 } with
  | some (v, H') =>
    if isNil (newOnes lo H'.bs) && rs.all (fun r => !Nat.beq r.kind 2 || rdSame { i, o, ts, v, kind := 3, lo, hi := H'.next, nb := [], rd := evOp T call o (gOf tm rs ts) } r.nb)
    then some { i, o, ts, v, kind := 3, lo, hi := H'.next, nb := [], rd := evOp T call o (gOf tm rs ts) } else none
  | none => none

/-- One operation of the abstract run. -/
noncomputable def drOp (M : List Nat) (rs : List DR) (i : Nat) (o : Oper) (lo : Nat) : Option DR :=
  let ts := looks ops o
  if wantedR ops tm rs o then
    match vOp T (gOf tm rs ts) o.op with
    | some v => some { i, o, ts, v, kind := 0, lo, hi := lo, nb := [] }
    | none =>
     match (if writesF (gOf tm rs ts) o then none else dr3 T call tm bs0 rs i o lo ts) with
     | some x => some x
     | none =>
      match (if writesF (gOf tm rs ts) o || rs.any (fun r => Nat.beq r.kind 2) then none else evOp T call o (gOf tm rs ts) { next := lo, bs := roB (news (fun j => (M.getD i 0).testBit j) rs ++ bs0) }) with
      | some (v, H') => if decr (newOnes lo H'.bs) then some { i, o, ts, v, kind := 1, lo, hi := H'.next, nb := newOnes lo H'.bs } else none
      | none =>
        match evOp T call o (gOf tm rs ts) { next := lo, bs := wheap bs0 rs } with
        | some (v, H') => some { i, o, ts, v, kind := 2, lo, hi := H'.next, nb := H'.bs }
        | none => none
  else some { i, o, ts, v := undef, kind := 0, lo, hi := lo, nb := [] }

noncomputable def drRun (M : List Nat) : List Oper → Nat → List DR → Nat → Option (List DR × Nat)
  | [], _, rs, next => some (rs, next)
  | o :: r, i, rs, next =>
    match drOp T call ops tm bs0 M rs i o next with
    | some x => drRun M r (i + 1) (x :: rs) x.hi
    | none => none

/-- What one operation of the run says. -/
noncomputable def Fact (M : List Nat) (rs : List DR) (x : DR) : Prop :=
  ops[x.i]? = some x.o ∧ x.i = rs.length ∧ x.ts = looks ops x.o ∧ x.lo = topHi rs n0 ∧
  ((x.kind = 0 ∧ x.hi = x.lo ∧ ((wantedR ops tm rs x.o = true ∧ vOp T (gOf tm rs x.ts) x.o.op = some x.v) ∨ (wantedR ops tm rs x.o = false ∧ x.v = undef))) ∨
   (x.kind = 1 ∧ wantedR ops tm rs x.o = true ∧ (∀ r ∈ rs, r.kind ≠ 2) ∧ ∃ H', evOp T call x.o (gOf tm rs x.ts) { next := x.lo, bs := roB (news (fun j => (M.getD x.i 0).testBit j) rs ++ bs0) } = some (x.v, H') ∧ x.hi = H'.next ∧ x.nb = newOnes x.lo H'.bs ∧ decr x.nb = true) ∨
   (x.kind = 2 ∧ wantedR ops tm rs x.o = true ∧ evOp T call x.o (gOf tm rs x.ts) { next := x.lo, bs := wheap bs0 rs } = some (x.v, { next := x.hi, bs := x.nb })) ∨
   (x.kind = 3 ∧ wantedR ops tm rs x.o = true ∧ x.rd = evOp T call x.o (gOf tm rs x.ts) ∧ ∃ H', evOp T call x.o (gOf tm rs x.ts) { next := x.lo, bs := roB bs0 } = some (x.v, H') ∧ x.hi = H'.next))

noncomputable def Facts (M : List Nat) : List DR → Prop
  | [] => True
  | x :: rs => Fact T call ops tm bs0 n0 M rs x ∧ Facts M rs

theorem drOp_fact {M : List Nat} {rs : List DR} {i : Nat} {o : Oper} {lo : Nat} {x : DR} (h : drOp T call ops tm bs0 M rs i o lo = some x) (hi : i = rs.length) (ho : ops[i]? = some o) (hl : lo = topHi rs n0) :
    Fact T call ops tm bs0 n0 M rs x ∧ x.lo = lo := by
  unfold drOp at h
  dsimp only at h
  split at h
  · rename_i hw
    split at h
    · rename_i v hv
      cases h
      exact ⟨⟨ho, hi, rfl, hl, .inl ⟨rfl, rfl, .inl ⟨hw, hv⟩⟩⟩, rfl⟩
    · split at h
      · rename_i y hy
        cases h
        split at hy
        · cases hy
        · unfold dr3 at hy
          split at hy
          · rename_i v H' hev
            split at hy
            · cases hy
              exact ⟨⟨ho, hi, rfl, hl, .inr (.inr (.inr ⟨rfl, hw, rfl, H', hev, rfl⟩))⟩, rfl⟩
            · cases hy
          · cases hy
      · split at h
        · rename_i v H' hev
          split at h
          · rename_i hd
            cases h
            split at hev
            · cases hev
            · rename_i hn
              refine ⟨⟨ho, hi, rfl, hl, .inr (.inl ⟨rfl, hw, fun r hr e => ?_, H', hev, rfl, rfl, hd⟩)⟩, rfl⟩
              exact hn (by rw [Bool.or_eq_true]; exact .inr (List.any_eq_true.2 ⟨r, hr, by rw [e]; rfl⟩))
          · cases h
        · split at h
          · rename_i v H' hev
            cases h
            exact ⟨⟨ho, hi, rfl, hl, .inr (.inr (.inl ⟨rfl, hw, hev⟩))⟩, rfl⟩
          · cases h
  · rename_i hw
    cases h
    exact ⟨⟨ho, hi, rfl, hl, .inl ⟨rfl, rfl, .inr ⟨by simpa using hw, rfl⟩⟩⟩, rfl⟩

theorem drRun_facts {M : List Nat} : ∀ (l : List Oper) (i : Nat) (rs : List DR) (next : Nat) (rs' : List DR) (next' : Nat), drRun T call ops tm bs0 M l i rs next = some (rs', next') → i = rs.length →
    (∀ j o, l[j]? = some o → ops[i + j]? = some o) → next = topHi rs n0 → Facts T call ops tm bs0 n0 M rs →
    Facts T call ops tm bs0 n0 M rs' ∧ rs'.length = rs.length + l.length ∧ next' = topHi rs' n0
  | [], i, rs, next, rs', next', h, _, _, hl, hf => by
    simp only [drRun, Option.some.injEq, Prod.mk.injEq] at h
    obtain ⟨rfl, rfl⟩ := h
    exact ⟨hf, by simp, hl⟩
  | o :: r, i, rs, next, rs', next', h, hi, ho, hl, hf => by
    simp only [drRun] at h
    split at h
    · rename_i x hx
      obtain ⟨hfx, hlo⟩ := drOp_fact T call ops tm bs0 n0 hx hi (by simpa using ho 0 o (by simp)) hl
      obtain ⟨h1, h2, h3⟩ := drRun_facts r (i + 1) (x :: rs) x.hi rs' next' h (by simp [hi]) (fun j q hq => by
        have := ho (j + 1) q (by simpa using hq)
        rwa [show i + (j + 1) = i + 1 + j by omega] at this) rfl ⟨hfx, hf⟩
      exact ⟨h1, by rw [h2]; simp; omega, h3⟩
    · cases h
end

end Go.Proofs.Ytjginpeoblilpaa
