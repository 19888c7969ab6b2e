/-
  What is proved: nothing of the program. This text holds a second way for a region whose order is drawn: a table of the memory behind each set of operations that may have been carried out, that all orders keep.
-/
import Derived.Test.YtjginpeoblilpaaEvO
namespace Go.Proofs.Ytjginpeoblilpaa
open Go.RowKit
set_option linter.unusedSimpArgs false
set_option linter.unusedVariables false

structure Ev where
  v : Value
  lo : Nat
  hi : Nat

noncomputable def writesO (o : Oper) (t : Nat) : Bool := match o.dst with | some d => Nat.beq d t | none => false

/-- A temporary behind some of the operations. -/
noncomputable def tvD (tm : Tm) (D : Nat → Bool) : List Oper → List Ev → Nat → Nat → Value
  | o :: os, e :: es, i, t => if D i && writesO o t then e.v else tvD tm D os es (i + 1) t
  | _, _, _, t => tm.get t

noncomputable def noWrite (t : Nat) : List Oper → Bool
  | [] => true
  | o :: os => !writesO o t && noWrite t os

/-- No two operations write one temporary. -/
noncomputable def onceW : List Oper → Bool
  | [] => true
  | o :: os => (match o.dst with | some d => noWrite d os | none => true) && onceW os

theorem writesO_dst {o : Oper} {t : Nat} (h : writesO o t = true) : o.dst = some t := by
  unfold writesO at h
  split at h
  · rename_i d hd; rw [hd, Nat.eq_of_beq_eq_true h]
  · cases h

theorem noWrite_get : ∀ (l : List Oper) (t j : Nat) (o : Oper), noWrite t l = true → l[j]? = some o → writesO o t = false
  | [], t, j, o, _, h => by simp at h
  | a :: l, t, j, o, hn, h => by
    simp only [noWrite, Bool.and_eq_true, Bool.not_eq_true'] at hn
    cases j with
    | zero => simp at h; subst h; exact hn.1
    | succ j => exact noWrite_get l t j o hn.2 (by simpa using h)

theorem onceW_get : ∀ (l : List Oper) (i j t : Nat) (o q : Oper), onceW l = true → l[i]? = some o → l[j]? = some q → writesO o t = true → writesO q t = true → i = j
  | [], i, j, t, o, q, _, h, _, _, _ => by simp at h
  | a :: l, i, j, t, o, q, hl, hi, hj, ho, hq => by
    simp only [onceW, Bool.and_eq_true] at hl
    cases i with
    | zero =>
      cases j with
      | zero => rfl
      | succ j =>
        simp at hi
        subst hi
        have hd := writesO_dst ho
        have := hl.1
        rw [hd] at this
        have := noWrite_get l t j q this (by simpa using hj)
        rw [hq] at this; cases this
    | succ i =>
      cases j with
      | zero =>
        simp at hj
        subst hj
        have hd := writesO_dst hq
        have := hl.1
        rw [hd] at this
        have := noWrite_get l t i o this (by simpa using hi)
        rw [ho] at this; cases this
      | succ j => rw [onceW_get l i j t o q hl.2 (by simpa using hi) (by simpa using hj) ho hq]

theorem tvD_congr (tm : Tm) {D D' : Nat → Bool} (t : Nat) : ∀ (l : List Oper) (es : List Ev) (k : Nat), (∀ j o, l[j]? = some o → writesO o t = true → D (k + j) = D' (k + j)) → tvD tm D l es k t = tvD tm D' l es k t
  | [], es, k, _ => by cases es <;> rfl
  | o :: l, [], k, _ => rfl
  | o :: l, e :: es, k, h => by
    have key := tvD_congr tm (D := D) (D' := D') t l es (k + 1) (fun j q hq hw => by
      have := h (j + 1) q (by simpa using hq) hw
      rwa [show k + (j + 1) = k + 1 + j by omega] at this)
    simp only [tvD]
    cases hw : writesO o t with
    | false => simp [key]
    | true =>
      have h0 := h 0 o (by simp) hw
      rw [Nat.add_zero] at h0
      rw [h0, key]

theorem tvD_hit (tm : Tm) {D : Nat → Bool} (t : Nat) : ∀ (l : List Oper) (es : List Ev) (k i : Nat) (o : Oper) (e : Ev), onceW l = true → l[i]? = some o → es[i]? = some e → writesO o t = true → D (k + i) = true → tvD tm D l es k t = e.v
  | [], es, k, i, o, e, _, h, _, _, _ => by simp at h
  | a :: l, [], k, i, o, e, _, _, h, _, _ => by simp at h
  | a :: l, f :: es, k, i, o, e, hl, hi, he, hw, hD => by
    simp only [tvD]
    cases i with
    | zero =>
      simp at hi he
      subst hi; subst he
      rw [Nat.add_zero] at hD
      simp [hD, hw]
    | succ i =>
      have hna : writesO a t = false := by
        cases hc : writesO a t with
        | false => rfl
        | true =>
          have := onceW_get (a :: l) 0 (i + 1) t a o hl rfl hi hc hw
          omega
      simp only [hna, Bool.and_false, Bool.false_eq_true, if_false]
      simp only [onceW, Bool.and_eq_true] at hl
      exact tvD_hit tm t l es (k + 1) i o e hl.2 (by simpa using hi) (by simpa using he) hw (by rwa [show k + 1 + i = k + (i + 1) by omega])

theorem tvD_none (tm : Tm) {D : Nat → Bool} (t : Nat) : ∀ (l : List Oper) (es : List Ev) (k : Nat), (∀ j, D (k + j) = false) → tvD tm D l es k t = tm.get t
  | [], es, k, _ => by cases es <;> rfl
  | o :: l, [], k, _ => rfl
  | o :: l, e :: es, k, h => by
    simp only [tvD]
    rw [show D k = false from by simpa using h 0]
    simp only [Bool.false_and, Bool.false_eq_true, if_false]
    exact tvD_none tm t l es (k + 1) (fun j => by have := h (j + 1); rwa [show k + (j + 1) = k + 1 + j by omega] at this)

noncomputable def finD (tm : Tm) : List Oper → List Ev → Tm
  | o :: os, e :: es => finD (putT tm o.dst e.v) os es
  | _, _ => tm

theorem tvD_quiet (tm : Tm) (D : Nat → Bool) (t : Nat) : ∀ (l : List Oper) (es : List Ev) (k : Nat), noWrite t l = true → tvD tm D l es k t = tm.get t
  | [], es, k, _ => by cases es <;> rfl
  | o :: l, [], k, _ => rfl
  | o :: l, e :: es, k, h => by
    simp only [noWrite, Bool.and_eq_true, Bool.not_eq_true'] at h
    simp only [tvD, h.1, Bool.and_false, Bool.false_eq_true, if_false]
    exact tvD_quiet tm D t l es (k + 1) h.2

theorem put_get (tm : Tm) (dst : Option Tmp) (v : Value) (t : Nat) (ht : t < tm.n) : (putT tm dst v).n = tm.n ∧ (putT tm dst v).get t = if (match dst with | some d => Nat.beq d t | none => false) then v else tm.get t := by
  cases dst with
  | none => exact ⟨rfl, rfl⟩
  | some d =>
    have hn : (tm.set d v).n = tm.n := by rw [Tm.set_if]; split <;> rfl
    refine ⟨hn, ?_⟩
    simp only [putT]
    rw [Tm.get_eq, Tm.list_set, List.getElem?_set, Tm.list_length, Tm.get_eq]
    by_cases e : d = t
    · subst e
      rw [if_pos rfl, if_pos ht]
      simp
    · rw [if_neg e]
      simp [beq_ne e]

theorem finD_spec : ∀ (l : List Oper) (es : List Ev) (tm : Tm) (k : Nat), onceW l = true → es.length = l.length → (finD tm l es).n = tm.n ∧ ∀ t, t < tm.n → (finD tm l es).get t = tvD tm all1 l es k t
  | [], [], tm, k, _, _ => ⟨rfl, fun t _ => rfl⟩
  | [], e :: es, tm, k, _, h => by simp at h
  | o :: l, [], tm, k, _, h => by simp at h
  | o :: l, e :: es, tm, k, hl, hn => by
    simp only [onceW, Bool.and_eq_true] at hl
    obtain ⟨h1, h2⟩ := finD_spec l es (putT tm o.dst e.v) (k + 1) hl.2 (by simpa using hn)
    have hpn : (putT tm o.dst e.v).n = tm.n := by
      cases o.dst with
      | none => rfl
      | some d => simp only [putT, Tm.set_if]; split <;> rfl
    refine ⟨by rw [finD, h1, hpn], fun t ht => ?_⟩
    rw [finD, h2 t (by rw [hpn]; exact ht)]
    simp only [tvD, all1, Bool.true_and]
    by_cases hw : writesO o t = true
    · rw [if_pos hw]
      have hd := writesO_dst hw
      have hno : noWrite t l = true := by have := hl.1; rw [hd] at this; exact this
      rw [tvD_quiet _ _ t l es (k + 1) hno, (put_get tm o.dst e.v t ht).2, hd]
      simp
    · rw [if_neg hw]
      have hw' : writesO o t = false := by simpa using hw
      -- nothing of the base matters but this place
      have base : ∀ (l : List Oper) (es : List Ev) (k : Nat), tvD (putT tm o.dst e.v) all1 l es k t = tvD tm all1 l es k t := by
        have hg : (putT tm o.dst e.v).get t = tm.get t := by
          rw [(put_get tm o.dst e.v t ht).2]
          unfold writesO at hw'
          rw [hw']; rfl
        intro l
        induction l with
        | nil => intro es k; cases es <;> exact hg
        | cons a l ih =>
          intro es k
          cases es with
          | nil => exact hg
          | cons f es => simp only [tvD]; rw [ih]
      exact base l es (k + 1)

noncomputable def gD (ops : Array Oper) (tm : Tm) (vals : List Ev) (m : Nat) : Operand → Option Value
  | .tmp t => if Nat.blt t tm.n then some (tvD tm m.testBit ops.toList vals 0 t) else none
  | x => opd Tm.nil x

noncomputable def wantedD (ops : Array Oper) (tm : Tm) (vals : List Ev) (m : Nat) (o : Oper) : Option Bool :=
  match o.guard with
  | none => some true
  | some (j, want) =>
    match (ops[j]?).bind (·.dst) with
    | some t => if Nat.blt t tm.n then some (match tvD tm m.testBit ops.toList vals 0 t with | .bool b => b == want | _ => false) else none
    | none => some false

noncomputable def tabFind : List (Nat × List (Nat × ABlk)) → Nat → Option (List (Nat × ABlk))
  | [], _ => none
  | (m, bs) :: r, n => if Nat.beq m n then some bs else tabFind r n

theorem tabFind_mem : ∀ {l : List (Nat × List (Nat × ABlk))} {m : Nat} {bs : List (Nat × ABlk)}, tabFind l m = some bs → (m, bs) ∈ l
  | [], m, bs, h => by cases h
  | (n, cs) :: r, m, bs, h => by
    simp only [tabFind] at h
    split at h
    · rename_i hb
      have := Nat.eq_of_beq_eq_true hb
      subst this
      cases h
      exact List.mem_cons_self
    · exact List.mem_cons_of_mem _ (tabFind_mem h)

noncomputable def eqP : List (Value × Value) → List (Value × Value) → Bool
  | [], [] => true
  | (a, b) :: r, (c, d) :: s => eqR 5 a c && eqR 5 b d && eqP r s
  | _, _ => false

theorem eqP_sound : ∀ (l s : List (Value × Value)), eqP l s = true → l = s
  | [], [], _ => rfl
  | [], _ :: _, h => by cases h
  | _ :: _, [], h => by cases h
  | (a, b) :: r, (c, d) :: s, h => by
    simp only [eqP, Bool.and_eq_true] at h
    rw [eqR_sound 5 _ _ h.1.1, eqR_sound 5 _ _ h.1.2, eqP_sound r s h.2]

noncomputable def eqBlk : ABlk → ABlk → Bool
  | .cells p a, .cells q b => p == q && eqR.eqA (eqR 5) a b
  | .amap p a, .amap q b => p == q && eqP a b
  | .tcells p a s, .tcells q b t => p == q && s == t && eqR.eqA (eqR 5) a b
  | .fro a, .fro b => eqR.eqA (eqR 5) a b
  | _, _ => false

theorem eqBlk_sound {a b : ABlk} (h : eqBlk a b = true) : a = b := by
  unfold eqBlk at h
  split at h
  · simp only [Bool.and_eq_true] at h
    rw [eq_of_beq h.1, eqA_sound (eqR_sound 5) _ _ h.2]
  · simp only [Bool.and_eq_true] at h
    rw [eq_of_beq h.1, eqP_sound _ _ h.2]
  · simp only [Bool.and_eq_true] at h
    rw [eq_of_beq h.1.1, eq_of_beq h.1.2, eqA_sound (eqR_sound 5) _ _ h.2]
  · rw [eqA_sound (eqR_sound 5) _ _ h]
  · cases h

noncomputable def subB (bs2 bs' : List (Nat × ABlk)) : Bool := bs2.all fun p => match lookB bs' p.1 with | some k => eqBlk p.2 k | none => false

theorem subB_spec {bs2 bs' : List (Nat × ABlk)} (h : subB bs2 bs' = true) (i : Nat) (k : ABlk) (hk : lookB bs2 i = some k) : lookB bs' i = some k := by
  have := List.all_eq_true.1 h _ (lookB_mem hk)
  simp only at this
  split at this
  · rename_i k' hk'
    rw [hk', eqBlk_sound this]
  · cases this

noncomputable def enabledD (ops : Array Oper) (m i : Nat) : Bool :=
  match ops[i]? with
  | some o => o.after.toList.all (fun e => !Region.binds .any e || m.testBit e.on)
  | none => false

section
variable (T : TypeId → Option TI) (call : Value → List Value → AH → Option (Value × AH)) (ops : Array Oper) (tm : Tm) (vals : List Ev)

noncomputable def stepD (tab : List (Nat × List (Nat × ABlk))) (m : Nat) (bs : List (Nat × ABlk)) (i : Nat) : Bool :=
  match ops[i]?, vals[i]? with
  | some o, some e =>
    match wantedD ops tm vals m o with
    | some true => match evOp T call o (gD ops tm vals m) { next := e.lo, bs } with
      | some (v, H') => eqR 5 v e.v && Nat.ble H'.next e.hi && (match tabFind tab (m ||| (1 <<< i)) with | some bs2 => subB bs2 H'.bs | none => false)
      | none => false
    | some false => eqR 5 undefV e.v && (match tabFind tab (m ||| (1 <<< i)) with | some bs2 => subB bs2 bs | none => false)
    | none => false
  | _, _ => false

noncomputable def tabOK (tab : List (Nat × List (Nat × ABlk))) : Bool :=
  tab.all fun p => (List.range ops.size).all fun i => p.1.testBit i || !enabledD ops p.1 i || stepD T call ops tm vals tab p.1 p.2 i

/-- The first run, in the order of the text. -/
noncomputable def runD : List Oper → Nat → List Ev → List (Nat × ABlk) → Nat → Option (List Ev × Nat)
  | [], _, es, _, next => some (es, next)
  | o :: os, i, es, bs, next =>
    match wantedD ops tm es ((1 <<< i) - 1) o with
    | some true => match evOp T call o (gD ops tm es ((1 <<< i) - 1)) { next, bs } with
      | some (v, H') => runD os (i + 1) (es ++ [⟨v, next, H'.next⟩]) H'.bs H'.next
      | none => none
    | some false => runD os (i + 1) (es ++ [⟨undefV, next, next⟩]) bs next
    | none => none

noncomputable def growI (m : Nat) (bs : List (Nat × ABlk)) : List Nat → List Nat → List (Nat × List (Nat × ABlk)) → List Nat × List (Nat × List (Nat × ABlk))
  | [], work, tab => (work, tab)
  | i :: is, work, tab =>
    if m.testBit i || !enabledD ops m i then growI m bs is work tab else
    match tabFind tab (m ||| (1 <<< i)), ops[i]?, vals[i]? with
    | none, some o, some e => match wantedD ops tm vals m o with
      | some true => match evOp T call o (gD ops tm vals m) { next := e.lo, bs } with
        | some (_, H') => growI m bs is (work ++ [m ||| (1 <<< i)]) (tab ++ [(m ||| (1 <<< i), H'.bs)])
        | none => growI m bs is work tab
      | some false => growI m bs is (work ++ [m ||| (1 <<< i)]) (tab ++ [(m ||| (1 <<< i), bs)])
      | none => growI m bs is work tab
    | _, _, _ => growI m bs is work tab

noncomputable def growD : Nat → List Nat → List (Nat × List (Nat × ABlk)) → List (Nat × List (Nat × ABlk))
  | 0, _, tab => tab
  | _ + 1, [], tab => tab
  | f + 1, m :: work, tab => match tabFind tab m with
    | some bs => growD f (growI T call ops tm vals m bs (List.range ops.size) work tab).1 (growI T call ops tm vals m bs (List.range ops.size) work tab).2
    | none => growD f work tab
end

noncomputable def chainD : Nat → List Ev → Nat → Bool
  | n, [], e => Nat.ble n e
  | n, x :: r, e => Nat.ble n x.lo && Nat.ble x.lo x.hi && chainD x.hi r e

theorem chainD_spec : ∀ (l : List Ev) (n e : Nat), chainD n l e = true → n ≤ e ∧ (∀ (i : Nat) (x : Ev), l[i]? = some x → n ≤ x.lo ∧ x.lo ≤ x.hi ∧ x.hi ≤ e) ∧ ∀ (i j : Nat) (x y : Ev), i < j → l[i]? = some x → l[j]? = some y → x.hi ≤ y.lo
  | [], n, e, h => ⟨by simpa [chainD, Nat.ble_eq] using h, fun i x hx => by simp at hx, fun i j x y _ hx => by simp at hx⟩
  | a :: l, n, e, h => by
    simp only [chainD, Bool.and_eq_true, Nat.ble_eq] at h
    obtain ⟨⟨h1, h2⟩, h3⟩ := h
    obtain ⟨g1, g2, g3⟩ := chainD_spec l a.hi e h3
    refine ⟨by omega, fun i x hx => ?_, fun i j x y hij hx hy => ?_⟩
    · cases i with
      | zero => simp at hx; subst hx; exact ⟨h1, h2, g1⟩
      | succ i => have := g2 i x (by simpa using hx); omega
    · cases j with
      | zero => omega
      | succ j =>
        cases i with
        | zero => simp at hx; subst hx; exact (g2 j y (by simpa using hy)).1
        | succ i => exact g3 i j x y (by omega) (by simpa using hx) (by simpa using hy)

noncomputable def edgesD (ops : Array Oper) : Bool := ops.toList.zipIdx.all fun p => p.1.after.toList.all (fun e => !Region.binds .any e || Nat.blt e.on p.2)

theorem edgesD_spec {ops : Array Oper} (h : edgesD ops = true) : ∀ i o, ops[i]? = some o → ∀ e ∈ o.after.toList, Region.binds .any e = true → e.on < i := by
  intro i o ho e he hb
  have h1 := List.all_eq_true.1 h (o, i) (by rw [List.mk_mem_zipIdx_iff_getElem?]; simpa using ho)
  have h2 := List.all_eq_true.1 h1 e he
  simpa [hb, Nat.blt_eq] using h2

structure Inv2 (ops : Array Oper) (tm : Tm) (vals : List Ev) (tab : List (Nat × List (Nat × ABlk))) (n0 nE B : Nat) (ρ0 : BMap) (w0 : World) (a0 : Act) (m : Nat) (ρ : BMap) (a : Act) (w : World) : Prop where
  sz : a.tmps.size = tm.n
  tmp : ∀ t u, a.tmps[t]? = some u → VRel ρ (tvD tm m.testBit ops.toList vals 0 t) u
  df : a.defers = a0.defers
  ext : Ext ρ0 ρ
  out : ∀ i, (i < n0 ∨ nE ≤ i) → ρ i = ρ0 i
  below : Below B w0 w
  free : ∀ i e, vals[i]? = some e → m.testBit i = false → Free ρ e.lo e.hi
  heap : ∃ bs, tabFind tab m = some bs ∧ HRel B ρ bs w

theorem bit_or (m i j : Nat) : (m ||| (1 <<< i)).testBit j = (m.testBit j || decide (j = i)) := by
  rw [Nat.testBit_or, Nat.one_shiftLeft, Nat.testBit_two_pow]
  congr 1
  simp [eq_comm]

section
variable {P : Program} {T : TypeId → Option TI} {call : Value → List Value → AH → Option (Value × AH)} {ops : Array Oper} {tm : Tm} {vals : List Ev} {tab : List (Nat × List (Nat × ABlk))} {n0 nE : Nat}
  {B : Nat} {ρ0 : BMap} {w0 : World} {a0 : Act}

theorem stepD_sound (hT : TOk P T) (hC : CallOK P call) (hO : onceW ops.toList = true) (hch : chainD n0 vals nE = true) (htab : tabOK T call ops tm vals tab = true)
    {m : Nat} {ρ : BMap} {a : Act} {w : World} (hI : Inv2 ops tm vals tab n0 nE B ρ0 w0 a0 m ρ a w) {i : Nat} {o : Oper} (ho : ops[i]? = some o)
    (hpre : ∀ e ∈ o.after.toList, Region.binds .any e = true → m.testBit e.on = true) (hi : m.testBit i = false) (b : Frame) (k : List Item) (cs : List Frame) (rest : List Nat) :
    ∃ ρ' w' a', Steps P (lone (b.atR a (.inRegion ops (i :: rest) :: k)) cs w) (lone (b.atR a' (.inRegion ops rest :: k)) cs w') ∧ Inv2 ops tm vals tab n0 nE B ρ0 w0 a0 (m ||| (1 <<< i)) ρ' a' w' := by
  obtain ⟨bs, hbs, hH⟩ := hI.heap
  have hlt : i < ops.size := (Array.getElem?_eq_some_iff.1 ho).1
  have h1 := List.all_eq_true.1 htab (m, bs) (tabFind_mem hbs)
  have h2 := List.all_eq_true.1 h1 i (List.mem_range.2 hlt)
  have hen : enabledD ops m i = true := by
    unfold enabledD
    rw [ho]
    refine List.all_eq_true.2 fun e he => ?_
    cases hb : Region.binds .any e with
    | false => rfl
    | true => simpa [hb] using hpre e he hb
  simp only [hi, hen, Bool.not_true, Bool.false_or] at h2
  unfold stepD at h2
  rw [ho] at h2
  split at h2
  · rename_i o' e heo hev
    cases heo
    obtain ⟨_, c2, c3⟩ := chainD_spec _ _ _ hch
    obtain ⟨r1, r2, r3⟩ := c2 i e hev
    have hl : ops.toList[i]? = some o := by simpa using ho
    have hER : ERel ρ (gD ops tm vals m) a.eval := by
      intro y v hy
      have nil := ERel.of (ρ := ρ) (tm := Tm.nil) (ct := #[]) (lrel_nil ρ) (E := fun | .tmp _ => undef | .const v => v | .global g => .pointer (some ⟨g, 0, none⟩) | .func f => .func (.func f) #[] #[]) (fun t => by simp) (fun _ => rfl) (fun _ => rfl) (fun _ => rfl)
      cases y with
      | tmp t =>
        simp only [gD, blt_iff] at hy
        split at hy
        · rename_i ht
          cases hy
          have h1 : t < a.tmps.size := by rw [hI.sz]; exact ht
          have := hI.tmp t a.tmps[t] (Array.getElem?_eq_getElem h1)
          show VRel ρ _ (a.tmps.getD t undef)
          simpa [h1] using this
        · cases hy
      | const u => exact nil (.const u) v hy
      | func f => exact nil (.func f) v hy
      | global g => exact nil (.global g) v hy
    have hwant : ∀ bb, wantedD ops tm vals m o = some bb → Region.wanted o (yielded ops a.tmps) = bb := by
      intro bb hbb
      unfold wantedD at hbb
      unfold Region.wanted
      cases hg : o.guard with
      | none => rw [hg] at hbb; cases hbb; rfl
      | some p =>
        obtain ⟨gj, want⟩ := p
        rw [hg] at hbb
        simp only at hbb ⊢
        unfold yielded
        cases hdst : (ops[gj]?).bind (·.dst) with
        | none => rw [hdst] at hbb; cases hbb; rfl
        | some t =>
          rw [hdst] at hbb
          simp only [blt_iff] at hbb
          split at hbb
          · rename_i ht
            cases hbb
            have h1 : t < a.tmps.size := by rw [hI.sz]; exact ht
            have hv := hI.tmp t a.tmps[t] (Array.getElem?_eq_getElem h1)
            simp only [Option.bind_some, Array.getElem?_eq_getElem h1]
            generalize a.tmps[t] = cu at hv
            generalize tvD tm m.testBit ops.toList vals 0 t = cv at hv
            cases hv <;> rfl
          · cases hbb
    have htmp : ∀ (ρ' : BMap) (u : Value), Ext ρ ρ' → VRel ρ' e.v u → (a.put o.dst u).tmps.size = tm.n ∧ ∀ t u', (a.put o.dst u).tmps[t]? = some u' → VRel ρ' (tvD tm (m ||| (1 <<< i)).testBit ops.toList vals 0 t) u' := by
      intro ρ' u he hu
      refine ⟨by cases o.dst <;> simp [Act.put, hI.sz], fun t u' hu' => ?_⟩
      have hcase : (writesO o t = true ∧ u' = u) ∨ (writesO o t = false ∧ a.tmps[t]? = some u') := by
        unfold writesO
        cases hd : o.dst with
        | none => rw [hd] at hu'; exact .inr ⟨rfl, hu'⟩
        | some d =>
          rw [hd] at hu'
          simp only [Act.put, Array.getElem?_setIfInBounds] at hu'
          by_cases e : d = t
          · subst e
            simp only [if_true] at hu'
            split at hu'
            · cases hu'; exact .inl ⟨by simp, rfl⟩
            · cases hu'
          · simp only [e, if_false] at hu'
            exact .inr ⟨beq_ne e, hu'⟩
      rcases hcase with ⟨hw, rfl⟩ | ⟨hw, hu''⟩
      · rw [tvD_hit tm t ops.toList vals 0 i o e hO hl hev hw (by rw [Nat.zero_add, bit_or]; simp)]
        exact hu
      · rw [tvD_congr tm (D' := m.testBit) t ops.toList vals 0 (fun j q hq hwq => by
          rw [Nat.zero_add, bit_or]
          have : ¬ j = i := fun ej => by
            subst ej
            rw [hl] at hq; cases hq
            rw [hw] at hwq; cases hwq
          simp [this])]
        exact (hI.tmp t u' hu'').ext he
    have hdf : ∀ u, (a.put o.dst u).defers = a0.defers := fun u => by cases o.dst <;> exact hI.df
    have hfree : ∀ ρ' : BMap, (∀ q, (q < e.lo ∨ e.hi ≤ q) → ρ' q = ρ q) → ∀ j x, vals[j]? = some x → (m ||| (1 <<< i)).testBit j = false → Free ρ' x.lo x.hi := by
      intro ρ' hout j x hx hj q q1 q2
      rw [bit_or, Bool.or_eq_false_iff] at hj
      have hji : ¬ j = i := by simpa using hj.2
      rw [hout q ?_]
      · exact hI.free j x hx hj.1 q q1 q2
      · rcases Nat.lt_or_ge j i with hc | hc
        · have := c3 j i x e hc hx hev; omega
        · have := c3 i j e x (by omega) hev hx; omega
    split at h2
    · rename_i hw
      have hwa := hwant true hw
      split at h2
      · rename_i v H' hop
        simp only [Bool.and_eq_true, Nat.ble_eq] at h2
        obtain ⟨⟨h3, h4⟩, h5⟩ := h2
        have hv := eqR_sound 5 _ _ h3
        subst hv
        split at h5
        · rename_i bs2 hbs2
          obtain ⟨hm, hs⟩ := evOp_sound hT hC hop
          have hfr : Free ρ e.lo H'.next := fun q q1 q2 => hI.free i e hev hi q q1 (Nat.lt_of_lt_of_le q2 h4)
          obtain ⟨ρ', w', u, hst, hu, hp⟩ := hs B ρ w b a k cs ops i rest ho hwa hER hH hfr
          obtain ⟨t1, t2⟩ := htmp ρ' u hp.ext hu
          have hout : ∀ q, (q < e.lo ∨ e.hi ≤ q) → ρ' q = ρ q := fun q hq => hp.out q (by
            show q < e.lo ∨ H'.next ≤ q
            omega)
          exact ⟨ρ', w', a.put o.dst u, hst, t1, t2, hdf u, hI.ext.trans hp.ext, fun q hq => (hout q (by omega)).trans (hI.out q hq), hI.below.trans hp.below, hfree ρ' hout, bs2, hbs2, hp.rel.sub (subB_spec h5)⟩
        · cases h5
      · cases h2
    · rename_i hw
      have hwa := hwant false hw
      simp only [Bool.and_eq_true] at h2
      obtain ⟨h3, h5⟩ := h2
      have hv := eqR_sound 5 _ _ h3
      split at h5
      · rename_i bs2 hbs2
        obtain ⟨t1, t2⟩ := htmp ρ undef (Ext.refl ρ) (by rw [← hv]; exact vrel_undef ρ)
        have hst : step P (lone (b.atR a (.inRegion ops (i :: rest) :: k)) cs w) = .next (lone (b.atR (a.put o.dst undef) (.inRegion ops rest :: k)) cs w) := by
          have := stepR_op_skip (P := P) (b := b) (a := a) (k := k) (cs := cs) (w := w) (ops := ops) (i := i) (rest := rest) (by
            rw [ho]
            simp only [Option.map_some, Option.getD_some]
            exact hwa)
          rw [ho] at this
          exact this
        exact ⟨ρ, w, a.put o.dst undef, .one hst, t1, t2, hdf undef, hI.ext, hI.out, hI.below, hfree ρ (fun _ _ => rfl), bs2, hbs2, hH.sub (subB_spec h5)⟩
      · cases h5
    · cases h2
  · cases h2

theorem goD (hT : TOk P T) (hC : CallOK P call) (hE : edgesD ops = true) (hO : onceW ops.toList = true) (hch : chainD n0 vals nE = true) (htab : tabOK T call ops tm vals tab = true)
    (b : Frame) (k : List Item) (cs : List Frame) : ∀ (fuel t : Nat) (listed : Array Bool) (m : Nat) (ρ : BMap) (a : Act) (w : World), listed.size = ops.size → (∀ i, i < ops.size → m.testBit i = listed.getD i false) → (∀ i, ops.size ≤ i → m.testBit i = false) → cnt (fun i => listed.getD i false) ops.size ≤ fuel →
    Inv2 ops tm vals tab n0 nE B ρ0 w0 a0 m ρ a w →
    ∃ ρ' w' a' m', Steps P (lone (b.atR a (.inRegion ops (Region.linearise.go .any ops fuel t listed []) :: k)) cs w) (lone (b.atR a' (.inRegion ops [] :: k)) cs w') ∧ (∀ i, i < ops.size → m'.testBit i = true) ∧ (∀ i, ops.size ≤ i → m'.testBit i = false) ∧ Inv2 ops tm vals tab n0 nE B ρ0 w0 a0 m' ρ' a' w'
  | 0, t, listed, m, ρ, a, w, hsz, hm, hm2, hc, hI => by
    refine ⟨ρ, w, a, m, ?_, fun i hi => by rw [hm i hi]; exact cnt_all (fun i => listed.getD i false) _ (by omega) i hi, hm2, hI⟩
    simp only [Region.linearise.go, List.reverse_nil]
    exact .refl _ _
  | fuel + 1, t, listed, m, ρ, a, w, hsz, hm, hm2, hc, hI => by
    simp only [Region.linearise.go]
    change ∃ ρ' w' a' m', Steps P (lone (b.atR a (.inRegion ops (match (Region.ready .any ops listed)[t % (Region.ready .any ops listed).length]? with
      | some i => Region.linearise.go .any ops fuel (t / (Region.ready .any ops listed).length) (listed.setIfInBounds i true) [i]
      | none => [].reverse) :: k)) cs w) (lone (b.atR a' (.inRegion ops [] :: k)) cs w') ∧ _
    cases hi : (Region.ready .any ops listed)[t % (Region.ready .any ops listed).length]? with
    | none =>
      have hnil : Region.ready .any ops listed = [] := by
        cases hr : Region.ready .any ops listed with
        | nil => rfl
        | cons x xs =>
          rw [hr] at hi
          have hlt : t % (x :: xs).length < (x :: xs).length := Nat.mod_lt _ (by simp)
          rw [List.getElem?_eq_getElem hlt] at hi
          cases hi
      have hall : ∀ i, i < ops.size → listed.getD i false = true := by
        intro i
        induction i using Nat.strongRecOn with
        | _ i ih =>
          intro hlt
          cases hd : listed.getD i false with
          | true => rfl
          | false =>
            exfalso
            have hmem : i ∈ Region.ready .any ops listed := by
              rw [mem_ready]
              refine ⟨?_, ops[i], Array.getElem?_eq_getElem hlt, ?_⟩
              · have h1 : i < listed.size := by omega
                have : listed.getD i true = listed.getD i false := by simp [h1]
                rw [this]; exact hd
              · intro e he hb
                have hon := edgesD_spec hE i ops[i] (Array.getElem?_eq_getElem hlt) e (by simpa using he) hb
                exact ih e.on hon (by omega)
            rw [hnil] at hmem
            cases hmem
      exact ⟨ρ, w, a, m, .refl _ _, fun i hi => by rw [hm i hi]; exact hall i hi, hm2, hI⟩
    | some i =>
      simp only []
      rw [linearise_go_acc, List.reverse_singleton, List.singleton_append]
      have hmem := List.mem_of_getElem? hi
      rw [mem_ready] at hmem
      obtain ⟨hun, o, ho, hpre⟩ := hmem
      have hlt : i < ops.size := (Array.getElem?_eq_some_iff.1 ho).1
      have h1 : i < listed.size := by omega
      have hun' : listed.getD i false = false := by
        have : listed.getD i true = listed.getD i false := by simp [h1]
        rw [← this]; exact hun
      obtain ⟨ρ1, w1, a1, st1, hI1⟩ := stepD_sound hT hC hO hch htab hI ho (fun e he hb => by
        have hon := edgesD_spec hE i o ho e he hb
        rw [hm e.on (by omega)]
        exact hpre e (by simpa using he) hb) (by rw [hm i hlt]; exact hun') b k cs (Region.linearise.go .any ops fuel (t / (Region.ready .any ops listed).length) (listed.setIfInBounds i true) [])
      have hD : ∀ j, add1 (fun i => listed.getD i false) i j = (listed.setIfInBounds i true).getD j false := by
        intro j
        by_cases e : j = i
        · subst e
          simp [add1, h1]
        · have e' : ¬ i = j := fun h => e h.symm
          simp only [add1, e, if_false]
          exact (getD_set_ne false e').symm
      have hcc := cnt_add (fun i => listed.getD i false) i hun' ops.size hlt
      have hcs : cnt (add1 (fun i => listed.getD i false) i) ops.size = cnt (fun j => (listed.setIfInBounds i true).getD j false) ops.size := cnt_same ops.size fun j _ => hD j
      have hfin : cnt (fun j => (listed.setIfInBounds i true).getD j false) ops.size ≤ fuel := by omega
      have hmm : ∀ j, j < ops.size → (m ||| (1 <<< i)).testBit j = (listed.setIfInBounds i true).getD j false := fun j hj => by
        rw [← hD j, bit_or, hm j hj]
        simp only [add1]
        by_cases e : j = i
        · simp [e]
        · simp [e]
      have hmo : ∀ j, ops.size ≤ j → (m ||| (1 <<< i)).testBit j = false := fun j hj => by
        rw [bit_or, hm2 j hj]
        have : ¬ j = i := by omega
        simp [this]
      obtain ⟨ρ2, w2, a2, m2, st2, hall, hm2', hI2⟩ := goD hT hC hE hO hch htab b k cs fuel (t / (Region.ready .any ops listed).length) (listed.setIfInBounds i true) (m ||| (1 <<< i)) ρ1 a1 w1 (by simpa using hsz) hmm hmo hfin hI1
      exact ⟨ρ2, w2, a2, m2, st1.trans st2, hall, hm2', hI2⟩
end

noncomputable def cond2 (T : TypeId → Option TI) (call : Value → List Value → AH → Option (Value × AH)) (ops : Array Oper) (A : AF) (H : AH) (vals : List Ev) (next : Nat) (tab : List (Nat × List (Nat × ABlk))) : Bool :=
  Nat.beq vals.length ops.size && chainD H.next vals next && tabOK T call ops A.tm vals tab && (match tabFind tab 0 with | some bs => subB bs H.bs | none => false)

noncomputable def fin2 (T : TypeId → Option TI) (call : Value → List Value → AH → Option (Value × AH)) (ops : Array Oper) (A : AF) (H : AH) (vals : List Ev) (next : Nat) (tab : List (Nat × List (Nat × ABlk))) : Option (AF × AH) :=
  if cond2 T call ops A H vals next tab then
    match tabFind tab ((1 <<< ops.size) - 1) with
    | some bs => some ({ A with tm := finD A.tm ops.toList vals }, { next, bs })
    | none => none
  else none

noncomputable def evDraw2 (T : TypeId → Option TI) (call : Value → List Value → AH → Option (Value × AH)) (ops : Array Oper) (A : AF) (H : AH) : Option (AF × AH) :=
  if Nat.ble ops.size 12 && edgesD ops && onceW ops.toList then
    match runD T call ops A.tm ops.toList 0 [] H.bs H.next with
    | some (vals, next) => fin2 T call ops A H vals next (growD T call ops A.tm vals 400 [0] [(0, H.bs)])
    | none => none
  else none

theorem evDraw2_sound {P : Program} {T : TypeId → Option TI} (hT : TOk P T) {call : Value → List Value → AH → Option (Value × AH)} (hC : CallOK P call) (hmix : P.follows .mixedOrders = true) {ops : Array Oper} {A A' : AF} {H H' : AH} (h : evDraw2 T call ops A H = some (A', H')) :
    H.next ≤ H'.next ∧ ∀ (B : Nat) (ρ : BMap) (w : World) (b : Frame) (a : Act) (k : List Item) (cs : List Frame) (id : Nat), FRel ρ A a → HRel B ρ H.bs w → Free ρ H.next H'.next →
      ∃ ρ' w' a', Steps P (lone (b.atR a (.code (.region id ops true) :: k)) cs w) (lone (b.atR a' (.inRegion ops [] :: k)) cs w') ∧ FRel ρ' A' a' ∧ Post B ρ H w H' ρ' w' := by
  unfold evDraw2 at h
  split at h
  · rename_i hS0
    simp only [Bool.and_eq_true] at hS0
    obtain ⟨⟨_, hE⟩, hO⟩ := hS0
    split at h
    · rename_i vals next hrun
      generalize growD T call ops A.tm vals 400 [0] [(0, H.bs)] = tab at h
      unfold fin2 at h
      split at h
      · rename_i hc
        unfold cond2 at hc
        simp only [Bool.and_eq_true, Nat.beq_eq] at hc
        obtain ⟨⟨⟨hlen, hch⟩, htab⟩, h0⟩ := hc
        split at h
        · rename_i bsF hbsF
          cases h
          obtain ⟨c1, c2, c3⟩ := chainD_spec _ _ _ hch
          refine ⟨c1, fun B ρ w b a k cs id hA hH hf => ?_⟩
          have hf' : Free ρ H.next next := hf
          split at h0
          · rename_i bs0 hbs0
            have hI0 : Inv2 ops A.tm vals tab H.next next B ρ w.drew a 0 ρ a w.drew := by
              refine ⟨(by rw [← hA.tm.1, Tm.list_length]), fun t u hu => ?_, rfl, Ext.refl ρ, fun _ _ => rfl, Below.refl _ _, fun i e he _ q q1 q2 => ?_, bs0, hbs0, ?_⟩
              · rw [tvD_none A.tm t ops.toList vals 0 (fun j => by simp), Tm.get_eq]
                have ht : t < A.tm.list.length := by rw [hA.tm.1]; exact (Array.getElem?_eq_some_iff.1 hu).1
                have := hA.tm.2 t A.tm.list[t] u (List.getElem?_eq_getElem ht) hu
                rw [List.getElem?_eq_getElem ht]
                exact this
              · obtain ⟨x1, _, x3⟩ := c2 i e he
                exact hf' q (by omega) (by omega)
              · exact hH.drew.sub (subB_spec h0)
            obtain ⟨ρ', w', a', m', st, hall, hout, hI⟩ := goD (P := P) hT hC hE hO hch htab b k cs ops.size (w.tape w.drawn (.order b.fn id)) (Array.replicate ops.size false) 0 ρ a w.drew (by simp) (fun i hi => by simp [hi]) (fun i _ => by simp) (by
              rw [cnt_same ops.size (D' := fun _ => false) fun i hi => by simp [hi], cnt_none]
              exact Nat.le_refl _) hI0
            have hst : step P (lone (b.atR a (.code (.region id ops true) :: k)) cs w) = .next (lone (b.atR a (.inRegion ops (Region.linearise.go .any ops ops.size (w.tape w.drawn (.order b.fn id)) (Array.replicate ops.size false) []) :: k)) cs w.drew) := by
              have := stepR_region_draw (P := P) (b := b) (a := a) (k := k) (cs := cs) (w := w) (ops := ops) (id := id)
              simp only [Region.schedule, hmix, Bool.true_or, if_true] at this
              exact this
            have hm' : m' = (1 <<< ops.size) - 1 := by
              apply Nat.eq_of_testBit_eq
              intro i
              rw [Nat.one_shiftLeft, Nat.testBit_two_pow_sub_one]
              by_cases hi : i < ops.size
              · rw [hall i hi]; simp [hi]
              · rw [hout i (by omega)]; simp [hi]
            obtain ⟨bs', hbs', hrel⟩ := hI.heap
            rw [hm', hbsF] at hbs'
            cases hbs'
            obtain ⟨f1, f2⟩ := finD_spec ops.toList vals A.tm 0 hO (by simpa using hlen)
            refine ⟨ρ', w', a', .head hst st, ⟨⟨?_, fun t v u hv hu => ?_⟩, ?_⟩, hI.ext, hI.out, hrel, (Below.refl B w).drew.trans hI.below⟩
            · rw [Tm.list_length, f1]; exact hI.sz.symm
            · have h1 := hI.tmp t u hu
              have ht : t < A.tm.n := by rw [← hI.sz]; exact (Array.getElem?_eq_some_iff.1 hu).1
              have hg := f2 t ht
              rw [Tm.get_eq, hv] at hg
              simp only [Option.getD_some] at hg
              rw [hg]
              rw [tvD_congr A.tm (D := all1) (D' := m'.testBit) t ops.toList vals 0 (fun j o hj _ => by
                rw [Nat.zero_add, hall j (by
                  have := (List.getElem?_eq_some_iff.1 hj).1
                  simpa using this)]; rfl)]
              exact h1
            · rw [hI.df]; exact hA.marks.ext hI.ext
          · cases h0
        · cases h
      · cases h
    · cases h
  · cases h

/-- A drawn region: the first way, or the second one. -/
noncomputable def evDrawX (T : TypeId → Option TI) (call : Value → List Value → AH → Option (Value × AH)) (ops : Array Oper) (A : AF) (H : AH) : Option (AF × AH) :=
  match evDraw T call ops A H with
  | some r => some r
  | none => evDraw2 T call ops A H

theorem evDrawX_sound {P : Program} {T : TypeId → Option TI} (hT : TOk P T) {call : Value → List Value → AH → Option (Value × AH)} (hC : CallOK P call) (hmix : P.follows .mixedOrders = true) {ops : Array Oper} {A A' : AF} {H H' : AH} (h : evDrawX T call ops A H = some (A', H')) :
    H.next ≤ H'.next ∧ ∀ (B : Nat) (ρ : BMap) (w : World) (b : Frame) (a : Act) (k : List Item) (cs : List Frame) (id : Nat), FRel ρ A a → HRel B ρ H.bs w → Free ρ H.next H'.next →
      ∃ ρ' w' a', Steps P (lone (b.atR a (.code (.region id ops true) :: k)) cs w) (lone (b.atR a' (.inRegion ops [] :: k)) cs w') ∧ FRel ρ' A' a' ∧ Post B ρ H w H' ρ' w' := by
  unfold evDrawX at h
  split at h
  · rename_i r hr
    cases h
    exact evDraw_sound hT hC hmix hr
  · exact evDraw2_sound hT hC hmix h

end Go.Proofs.Ytjginpeoblilpaa
