/-
  What is proved: nothing of the program. This text holds an abstract memory and the relation between its values and the model's values (for the evaluator of the texts after it).
-/
import Derived.Test.YtjginpeoblilpaaEv0
namespace Go.Proofs.Ytjginpeoblilpaa
open Go.RowKit
set_option linter.unusedSimpArgs false
set_option linter.unusedVariables false

/-- Where an abstract block lies: block, offset, cells from there on. -/
abbrev BMap := Nat → Option (Nat × Nat × Nat)

/-- An abstract value and a value of the model. -/
inductive VRel (ρ : BMap) : Value → Value → Prop
  | bool (b : Bool) : VRel ρ (.bool b) (.bool b)
  | int (k : IntKind) (n : Int) : VRel ρ (.int k n) (.int k n)
  | string (s : ByteArray) : VRel ρ (.string s) (.string s)
  | pnil : VRel ρ (.pointer none) (.pointer none)
  | ptr {i b o tot off : Nat} (h : ρ i = some (b, o, tot)) : VRel ρ (.pointer (some ⟨i, off, none⟩)) (.pointer (some ⟨b, o + off, none⟩))
  | snil : VRel ρ (.slice none 0 0) (.slice none 0 0)
  | slice {i b o tot off len sz cap : Nat} (h : ρ i = some (b, o, tot)) (hl : len ≤ cap) (ht : off + cap * sz ≤ tot) :
      VRel ρ (.slice (some ⟨i, off, none⟩) len sz) (.slice (some ⟨b, o + off, none⟩) len cap)
  | sempty {sz cap : Nat} {a : Addr} : VRel ρ (.slice (some ⟨0, 0, some 0⟩) 0 sz) (.slice (some a) 0 cap)
  | rnil {i : Nat} : VRel ρ (.slice (some ⟨i, 0, some 1⟩) 0 0) (.slice none 0 0)
  | rnone {i cap : Nat} {a : Addr} : VRel ρ (.slice (some ⟨i, 0, some 1⟩) 0 0) (.slice (some a) 0 cap)
  | rsl {i b o tot len cap : Nat} (h : ρ i = some (b, o, tot)) (hl : len ≤ cap) (ht : len ≤ tot) :
      VRel ρ (.slice (some ⟨i, 0, some 1⟩) len 0) (.slice (some ⟨b, o, none⟩) len cap)
  | rptr {i b o tot off : Nat} (h : ρ i = some (b, o, tot)) (ht : off < tot) : VRel ρ (.pointer (some ⟨i, off, some 1⟩)) (.pointer (some ⟨b, o + off, none⟩))
  | gptr {g off : Nat} : VRel ρ (.pointer (some ⟨g, off, some 2⟩)) (.pointer (some ⟨g, off, none⟩))
  | opq {n cap : Nat} {a : Addr} (hl : n ≤ cap) : VRel ρ (.slice (some ⟨0, 0, some 3⟩) n 0) (.slice (some a) n cap)
  | gsl {g off len sz cap : Nat} (hl : len ≤ cap) : VRel ρ (.slice (some ⟨g, off, some 2⟩) len sz) (.slice (some ⟨g, off, none⟩) len cap)
  | mnil : VRel ρ (.map none) (.map none)
  | mptr {i b o tot : Nat} (h : ρ i = some (b, o, tot)) : VRel ρ (.map (some i)) (.map (some b))
  | fnil : VRel ρ .nilFunc .nilFunc
  | func {f : FuncId} {c c' : Array Value} (hs : c.size = c'.size) (h : ∀ (j : Nat) (v v' : Value), c[j]? = some v → c'[j]? = some v' → VRel ρ v v') :
      VRel ρ (.func (.func f) #[] c) (.func (.func f) #[] c')
  | bound {f : FuncId} {v v' : Value} (h : VRel ρ v v') : VRel ρ (.func (.func f) #[v] #[]) (.func (.func f) #[v'] #[])
  | yield {i b o tot : Nat} (h : ρ i = some (b, o, tot)) : VRel ρ (.func (.yield i) #[] #[]) (.func (.yield b) #[] #[])
  | inil : VRel ρ .nilIface .nilIface
  | iface {t : TypeId} {v v' : Value} (h : VRel ρ v v') : VRel ρ (.iface t v) (.iface t v')
  | agg {c c' : Array Value} (hs : c.size = c'.size) (h : ∀ (j : Nat) (v v' : Value), c[j]? = some v → c'[j]? = some v' → VRel ρ v v') : VRel ρ (.agg c) (.agg c')
  | tuple {c c' : Array Value} (hs : c.size = c'.size) (h : ∀ (j : Nat) (v v' : Value), c[j]? = some v → c'[j]? = some v' → VRel ρ v v') : VRel ρ (.tuple c) (.tuple c')

def Ext (ρ ρ' : BMap) : Prop := ∀ i x, ρ i = some x → ρ' i = some x

theorem Ext.refl (ρ : BMap) : Ext ρ ρ := fun _ _ h => h
theorem Ext.trans {a b c : BMap} (h : Ext a b) (k : Ext b c) : Ext a c := fun i x hx => k i x (h i x hx)

theorem VRel.ext {ρ ρ' : BMap} (he : Ext ρ ρ') {v u : Value} (h : VRel ρ v u) : VRel ρ' v u := by
  induction h with
  | bool b => exact .bool b
  | int k n => exact .int k n
  | string s => exact .string s
  | pnil => exact .pnil
  | ptr h => exact .ptr (he _ _ h)
  | snil => exact .snil
  | slice h hl ht => exact .slice (he _ _ h) hl ht
  | sempty => exact .sempty
  | rnil => exact .rnil
  | rnone => exact .rnone
  | rsl h hl ht => exact .rsl (he _ _ h) hl ht
  | rptr h ht => exact .rptr (he _ _ h) ht
  | gptr => exact .gptr
  | opq hl => exact .opq hl
  | gsl hl => exact .gsl hl
  | mnil => exact .mnil
  | mptr h => exact .mptr (he _ _ h)
  | fnil => exact .fnil
  | func hs _ ih => exact .func hs ih
  | bound _ ih => exact .bound ih
  | yield h => exact .yield (he _ _ h)
  | inil => exact .inil
  | iface _ ih => exact .iface ih
  | agg hs _ ih => exact .agg hs ih
  | tuple hs _ ih => exact .tuple hs ih

/-- Lists of values, place by place. -/
def LRel (ρ : BMap) (l : List Value) (c : Array Value) : Prop :=
  l.length = c.size ∧ ∀ (j : Nat) (v v' : Value), l[j]? = some v → c[j]? = some v' → VRel ρ v v'

theorem LRel.ext {ρ ρ' : BMap} (he : Ext ρ ρ') {l : List Value} {c : Array Value} (h : LRel ρ l c) : LRel ρ' l c :=
  ⟨h.1, fun j v v' hv hv' => (h.2 j v v' hv hv').ext he⟩

theorem VRel.cells_agg {ρ : BMap} {c c' : Array Value} (h : VRel ρ (.agg c) (.agg c')) : LRel ρ c.toList c' := by
  cases h with
  | agg hs h => exact ⟨by simpa using hs, fun j v v' hv hv' => h j v v' (by simpa using hv) hv'⟩

/-! ### Parts of lists, by recursors: few steps lead to them. -/
noncomputable def getR {α : Type} (l : List α) : Nat → Option α :=
  List.rec (motive := fun _ => Nat → Option α) (fun _ => none) (fun a _ ih n => Nat.rec (motive := fun _ => Option α) (some a) (fun m _ => ih m) n) l
theorem getR_eq {α : Type} : ∀ (l : List α) (n : Nat), getR l n = l[n]?
  | [], n => by simp; rfl
  | a :: r, 0 => by simp; rfl
  | a :: r, n + 1 => by rw [List.getElem?_cons_succ, ← getR_eq r n]; rfl

noncomputable def dropR {α : Type} (l : List α) : Nat → List α :=
  List.rec (motive := fun _ => Nat → List α) (fun _ => []) (fun a r ih n => Nat.rec (motive := fun _ => List α) (a :: r) (fun m _ => ih m) n) l
theorem dropR_eq {α : Type} : ∀ (l : List α) (n : Nat), dropR l n = l.drop n
  | [], n => by simp; rfl
  | a :: r, 0 => rfl
  | a :: r, n + 1 => by rw [List.drop_succ_cons, ← dropR_eq r n]; rfl

noncomputable def takeR {α : Type} (l : List α) : Nat → List α :=
  List.rec (motive := fun _ => Nat → List α) (fun _ => []) (fun a _ ih n => Nat.rec (motive := fun _ => List α) [] (fun m _ => a :: ih m) n) l
theorem takeR_eq {α : Type} : ∀ (l : List α) (n : Nat), takeR l n = l.take n
  | [], n => by simp; rfl
  | a :: r, 0 => rfl
  | a :: r, n + 1 => by rw [List.take_succ_cons, ← takeR_eq r n]; rfl

noncomputable def appR {α : Type} (l b : List α) : List α := List.rec (motive := fun _ => List α) b (fun a _ ih => a :: ih) l
theorem appR_eq {α : Type} (b : List α) : ∀ (l : List α), appR l b = l ++ b
  | [] => rfl
  | a :: r => by rw [List.cons_append, ← appR_eq b r]; rfl

noncomputable def setR {α : Type} (l : List α) (v : α) : Nat → List α :=
  List.rec (motive := fun _ => Nat → List α) (fun _ => []) (fun a r ih n => Nat.rec (motive := fun _ => List α) (v :: r) (fun m _ => a :: ih m) n) l
theorem setR_eq {α : Type} (v : α) : ∀ (l : List α) (n : Nat), setR l v n = l.set n v
  | [], n => by simp; rfl
  | a :: r, 0 => rfl
  | a :: r, n + 1 => by rw [List.set_cons_succ, ← setR_eq v r n]; rfl

/-- The first n, all of them or none; written out. -/
noncomputable def takeK {α : Type} (l : List α) : Nat → (List α → Option (List α)) → Option (List α) :=
  List.rec (motive := fun _ => Nat → (List α → Option (List α)) → Option (List α))
    (fun n k => Nat.rec (motive := fun _ => Option (List α)) (k []) (fun _ _ => none) n)
    (fun a _ ih n k => Nat.rec (motive := fun _ => Option (List α)) (k []) (fun m _ => ih m fun q => k (a :: q)) n) l
theorem takeK_eq {α : Type} : ∀ (l : List α) (n : Nat) (k : List α → Option (List α)), takeK l n k = if n ≤ l.length then k (l.take n) else none
  | [], 0, k => rfl
  | [], n + 1, k => by simp; rfl
  | a :: r, 0, k => by simp; rfl
  | a :: r, n + 1, k => by
    have := takeK_eq r n fun q => k (a :: q)
    simp only [List.length_cons, Nat.add_le_add_iff_right, List.take_succ_cons]
    rw [← this]; rfl

/-- A part of an array. -/
noncomputable def exA {α : Type} (c : Array α) (a b : Nat) : Array α := ⟨takeR (dropR c.toList a) (b - a)⟩
theorem exA_eq {α : Type} (c : Array α) (a b : Nat) : exA c a b = c.extract a b := by
  apply Array.ext'
  simp [exA, takeR_eq, dropR_eq, List.extract_eq_take_drop]
noncomputable def getA {α : Type} (c : Array α) (n : Nat) : Option α := getR c.toList n
theorem getA_eq {α : Type} (c : Array α) (n : Nat) : getA c n = c[n]? := by simp [getA, getR_eq]

/-! ### Temporaries: a tree, so that one of many is found in a few steps. -/
def undefV : Value := .tuple #[]

inductive Tr where
  | lf
  | nd (v : Value) (l r : Tr)

noncomputable def Tr.get (t : Tr) : Nat → Value :=
  Tr.rec (motive := fun _ => Nat → Value) (fun _ => undefV) (fun v _ _ gl gr n => Bool.rec (motive := fun _ => Value) (Bool.rec (motive := fun _ => Value) (gr (n / 2 - 1)) (gl (n / 2)) (Nat.beq (n % 2) 1)) v (Nat.beq n 0)) t
theorem Tr.get_nd (v : Value) (l r : Tr) (n : Nat) : (Tr.nd v l r).get n = if Nat.beq n 0 then v else if Nat.beq (n % 2) 1 then l.get (n / 2) else r.get (n / 2 - 1) := by
  show Bool.rec (motive := fun _ => Value) (Bool.rec (motive := fun _ => Value) (r.get (n / 2 - 1)) (l.get (n / 2)) (Nat.beq (n % 2) 1)) v (Nat.beq n 0) = _
  cases Nat.beq n 0 <;> cases Nat.beq (n % 2) 1 <;> rfl

theorem Tr.get_lf (n : Nat) : Tr.lf.get n = undefV := rfl

noncomputable def Tr.set (f : Nat) : Tr → Nat → Value → Tr :=
  Nat.rec (motive := fun _ => Tr → Nat → Value → Tr) (fun t _ _ => t) (fun _ go t n v =>
    Tr.rec (motive := fun _ => Tr)
      (Bool.rec (motive := fun _ => Tr) (Bool.rec (motive := fun _ => Tr) (.nd undefV .lf (go .lf (n / 2 - 1) v)) (.nd undefV (go .lf (n / 2) v) .lf) (Nat.beq (n % 2) 1)) (.nd v .lf .lf) (Nat.beq n 0))
      (fun u l r _ _ => Bool.rec (motive := fun _ => Tr) (Bool.rec (motive := fun _ => Tr) (.nd u l (go r (n / 2 - 1) v)) (.nd u (go l (n / 2) v) r) (Nat.beq (n % 2) 1)) (.nd v l r) (Nat.beq n 0)) t) f
theorem Tr.set_zero (t : Tr) (n : Nat) (v : Value) : Tr.set 0 t n v = t := rfl
theorem Tr.set_lf (f n : Nat) (v : Value) : Tr.set (f + 1) .lf n v = if Nat.beq n 0 then .nd v .lf .lf else if Nat.beq (n % 2) 1 then .nd undefV (Tr.set f .lf (n / 2) v) .lf else .nd undefV .lf (Tr.set f .lf (n / 2 - 1) v) := by
  show Bool.rec (motive := fun _ => Tr) (Bool.rec (motive := fun _ => Tr) (.nd undefV .lf (Tr.set f .lf (n / 2 - 1) v)) (.nd undefV (Tr.set f .lf (n / 2) v) .lf) (Nat.beq (n % 2) 1)) (.nd v .lf .lf) (Nat.beq n 0) = _
  cases Nat.beq n 0 <;> cases Nat.beq (n % 2) 1 <;> rfl
theorem Tr.set_nd (f n : Nat) (u : Value) (l r : Tr) (v : Value) : Tr.set (f + 1) (.nd u l r) n v = if Nat.beq n 0 then .nd v l r else if Nat.beq (n % 2) 1 then .nd u (Tr.set f l (n / 2) v) r else .nd u l (Tr.set f r (n / 2 - 1) v) := by
  show Bool.rec (motive := fun _ => Tr) (Bool.rec (motive := fun _ => Tr) (.nd u l (Tr.set f r (n / 2 - 1) v)) (.nd u (Tr.set f l (n / 2) v) r) (Nat.beq (n % 2) 1)) (.nd v l r) (Nat.beq n 0) = _
  cases Nat.beq n 0 <;> cases Nat.beq (n % 2) 1 <;> rfl

theorem beq_iff {a b : Nat} : (Nat.beq a b = true) = (a = b) := propext ⟨Nat.eq_of_beq_eq_true, fun h => by rw [h]; exact Nat.beq_refl b⟩

theorem Tr.get_set : ∀ (f : Nat) (t : Tr) (n m : Nat) (v : Value), n < f → (Tr.set f t n v).get m = if m = n then v else t.get m
  | 0, _, _, _, _, h => by omega
  | f + 1, t, n, m, v, h => by
    have ih := fun t n m h => Tr.get_set f t n m v h
    cases t with
    | lf =>
      rw [Tr.set_lf]
      split
      · rename_i hn; rw [beq_iff] at hn; subst hn
        simp only [Tr.get_nd, Tr.get_lf, beq_iff]
        split
        · rfl
        · split <;> rfl
      · rename_i hn; rw [beq_iff] at hn
        split
        · rename_i ho; rw [beq_iff] at ho
          simp only [Tr.get_nd, Tr.get_lf, beq_iff]
          split
          · rename_i hm; rw [if_neg (by omega)]
          · split
            · rw [ih _ _ _ (by omega)]
              by_cases e : m = n
              · rw [if_pos e, if_pos (by omega)]
              · rw [if_neg e, if_neg (by omega)]; rfl
            · rw [if_neg (by omega)]
        · rename_i ho; rw [beq_iff] at ho
          simp only [Tr.get_nd, Tr.get_lf, beq_iff]
          split
          · rename_i hm; rw [if_neg (by omega)]
          · split
            · rw [if_neg (by omega)]
            · rw [ih _ _ _ (by omega)]
              by_cases e : m = n
              · rw [if_pos e, if_pos (by omega)]
              · rw [if_neg e, if_neg (by omega)]; rfl
    | nd u l r =>
      rw [Tr.set_nd]
      split
      · rename_i hn; rw [beq_iff] at hn; subst hn
        simp only [Tr.get_nd, Tr.get_lf, beq_iff]
        split
        · rfl
        · rfl
      · rename_i hn; rw [beq_iff] at hn
        split
        · rename_i ho; rw [beq_iff] at ho
          simp only [Tr.get_nd, Tr.get_lf, beq_iff]
          by_cases hm : m = 0
          · rw [if_pos hm, if_neg (by omega), if_pos hm]
          · rw [if_neg hm, if_neg hm]
            by_cases hm2 : m % 2 = 1
            · rw [if_pos hm2, if_pos hm2, ih _ _ _ (by omega)]
              by_cases e : m = n
              · rw [if_pos e, if_pos (by omega)]
              · rw [if_neg e, if_neg (by omega)]
            · rw [if_neg hm2, if_neg hm2, if_neg (by omega)]
        · rename_i ho; rw [beq_iff] at ho
          simp only [Tr.get_nd, Tr.get_lf, beq_iff]
          by_cases hm : m = 0
          · rw [if_pos hm, if_neg (by omega), if_pos hm]
          · rw [if_neg hm, if_neg hm]
            by_cases hm2 : m % 2 = 1
            · rw [if_pos hm2, if_pos hm2, if_neg (by omega)]
            · rw [if_neg hm2, if_neg hm2, ih _ _ _ (by omega)]
              by_cases e : m = n
              · rw [if_pos e, if_pos (by omega)]
              · rw [if_neg e, if_neg (by omega)]

structure Tm where
  n : Nat
  tr : Tr

noncomputable def Tm.get : Tm → Nat → Value
  | ⟨n, tr⟩, i => match Nat.blt i n with
    | true => tr.get i
    | false => undefV
theorem Tm.get_if (t : Tm) (i : Nat) : t.get i = if Nat.blt i t.n then t.tr.get i else undefV := by
  cases t with
  | mk n tr =>
    simp only [Tm.get]
    cases Nat.blt i n <;> rfl
noncomputable def Tm.set : Tm → Nat → Value → Tm
  | ⟨n, tr⟩, i, v => match Nat.blt i n with
    | true => ⟨n, Tr.set (i + 1) tr i v⟩
    | false => ⟨n, tr⟩
theorem Tm.set_if (t : Tm) (i : Nat) (v : Value) : t.set i v = if Nat.blt i t.n then ⟨t.n, Tr.set (i + 1) t.tr i v⟩ else t := by
  cases t with
  | mk n tr =>
    simp only [Tm.set]
    cases Nat.blt i n <;> rfl
/-- The temporaries as a list. -/
noncomputable def Tm.list (t : Tm) : List Value := (List.range t.n).map t.tr.get

theorem blt_iff {a b : Nat} : (Nat.blt a b = true) = (a < b) := propext (by simp [Nat.blt_eq])

theorem Tm.list_length (t : Tm) : t.list.length = t.n := by simp [Tm.list]

theorem Tm.list_get (t : Tm) (i : Nat) : t.list[i]? = if i < t.n then some (t.tr.get i) else none := by
  unfold Tm.list
  rw [List.getElem?_map]
  split
  · rename_i h; rw [List.getElem?_range h]; rfl
  · rename_i h; rw [List.getElem?_eq_none (by simpa using h)]; rfl

theorem Tm.get_eq (t : Tm) (i : Nat) : t.get i = (t.list[i]?).getD undefV := by
  rw [Tm.list_get, Tm.get_if]
  simp only [blt_iff]
  split <;> rfl

theorem Tm.list_set (t : Tm) (i : Nat) (v : Value) : (t.set i v).list = t.list.set i v := by
  apply List.ext_getElem?
  intro j
  rw [Tm.set_if]
  simp only [blt_iff]
  by_cases h : i < t.n
  · rw [if_pos h, Tm.list_get, List.getElem?_set, Tm.list_get, Tm.list_length]
    simp only
    rw [Tr.get_set _ _ _ _ _ (Nat.lt_succ_self i)]
    by_cases e : i = j
    · subst e; simp [h]
    · have e' : ¬ j = i := fun h => e h.symm
      simp [e, e']
  · rw [if_neg h, List.getElem?_set, Tm.list_length]
    by_cases e : i = j
    · subst e; rw [if_pos rfl, if_neg h, Tm.list_get, if_neg h]
    · rw [if_neg e]

noncomputable def Tr.ofL : List Value → Nat → Tr → Tr
  | [], _, t => t
  | v :: r, i, t => Tr.ofL r (i + 1) (Tr.set (i + 1) t i v)

theorem Tr.get_ofL : ∀ (l : List Value) (i : Nat) (t : Tr) (j : Nat), (Tr.ofL l i t).get j = if i ≤ j ∧ j < i + l.length then (l[j - i]?).getD undefV else t.get j
  | [], i, t, j => by
    rw [Tr.ofL, if_neg (by simp only [List.length_nil]; omega)]
  | v :: r, i, t, j => by
    rw [Tr.ofL, Tr.get_ofL r (i + 1), Tr.get_set _ _ _ _ _ (Nat.lt_succ_self i)]
    simp only [List.length_cons]
    by_cases h : i + 1 ≤ j ∧ j < i + 1 + r.length
    · rw [if_pos h, if_pos (by omega), show j - i = (j - (i + 1)) + 1 by omega, List.getElem?_cons_succ]
    · rw [if_neg h]
      by_cases e : j = i
      · subst e
        rw [if_pos rfl, if_pos (by omega)]
        simp
      · rw [if_neg e, if_neg (by omega)]

noncomputable def Tm.of (args : List Value) (n : Nat) : Tm := ⟨args.length + (n - args.length), Tr.ofL args 0 .lf⟩
def Tm.nil : Tm := ⟨0, .lf⟩

theorem Tm.list_of (args : List Value) (n : Nat) : (Tm.of args n).list = args ++ List.replicate (n - args.length) undefV := by
  apply List.ext_getElem?
  intro j
  have hn : (Tm.of args n).n = args.length + (n - args.length) := rfl
  have ht : (Tm.of args n).tr.get j = if 0 ≤ j ∧ j < 0 + args.length then (args[j - 0]?).getD undefV else undefV := Tr.get_ofL args 0 .lf j
  rw [Tm.list_get, List.getElem?_append, ht]
  by_cases h : j < args.length
  · rw [if_pos (by rw [hn]; omega), if_pos h, if_pos (by omega), Nat.sub_zero, List.getElem?_eq_getElem h]; rfl
  · rw [if_neg (show ¬ (0 ≤ j ∧ j < 0 + args.length) by omega), if_neg h, List.getElem?_replicate]
    by_cases h2 : j < args.length + (n - args.length)
    · rw [if_pos (by rw [hn]; exact h2), if_pos (by omega)]
    · rw [if_neg (by rw [hn]; exact h2), if_neg (by omega)]

theorem Tm.list_nil : Tm.nil.list = [] := rfl

/-- What an abstract block holds. -/
inductive ABlk where
  | cellsT (ro : Bool) (cs : List Value) (ty : Option TypeId)
  | iter (s : ByteArray) (pos : Nat)
  | loop (st : LoopState) (pending : Option Code) (fn : FuncId) (tmps : Tm) (params : List Tmp) (assign body : Code)
  | defd
  | ints (g : Nat → Int)
  | amap (ro : Bool) (es : List (Value × Value))
  | tcells (ex : Bool) (cs : List Value) (ty : TypeId)
  | fro (cs : List Value)

/-- A block of cells whose element type is not told. -/
@[match_pattern] abbrev ABlk.cells (ro : Bool) (cs : List Value) : ABlk := .cellsT ro cs none

structure AH where
  next : Nat
  bs : List (Nat × ABlk)

theorem beq_ne {i j : Nat} (h : ¬ i = j) : Nat.beq i j = false := by
  cases hb : Nat.beq i j with
  | false => rfl
  | true => exact absurd (Nat.eq_of_beq_eq_true hb) h

def lookB : List (Nat × ABlk) → Nat → Option ABlk
  | [], _ => none
  | (j, k) :: r, i => if Nat.beq i j then some k else lookB r i

def setB : List (Nat × ABlk) → Nat → ABlk → List (Nat × ABlk)
  | [], _, _ => []
  | (j, k) :: r, i, x => if Nat.beq i j then (j, x) :: r else (j, k) :: setB r i x

def dropB : List (Nat × ABlk) → Nat → List (Nat × ABlk)
  | [], _ => []
  | (j, k) :: r, i => if Nat.beq i j then dropB r i else (j, k) :: dropB r i

theorem lookB_setB (l : List (Nat × ABlk)) (i j : Nat) (x : ABlk) :
    lookB (setB l i x) j = if j = i then (lookB l i).map (fun _ => x) else lookB l j := by
  induction l with
  | nil => simp [setB, lookB]
  | cons p r ih =>
    obtain ⟨q, k⟩ := p
    simp only [setB]
    by_cases h : i = q
    · subst h
      simp only [Nat.beq_refl, if_true, lookB]
      by_cases hj : j = i
      · subst hj; simp
      · have : Nat.beq j i = false := beq_ne hj
        simp [this, hj]
    · have hb : Nat.beq i q = false := beq_ne h
      simp only [hb, Bool.false_eq_true, if_false, lookB]
      by_cases hj : j = q
      · subst hj
        have : ¬ j = i := fun e => h e.symm
        simp [this]
      · have hb' : Nat.beq j q = false := beq_ne hj
        simp only [hb', Bool.false_eq_true, if_false]
        rw [ih]

theorem lookB_dropB (l : List (Nat × ABlk)) (i j : Nat) : lookB (dropB l i) j = if j = i then none else lookB l j := by
  induction l with
  | nil => simp [dropB, lookB]
  | cons p r ih =>
    obtain ⟨q, k⟩ := p
    simp only [dropB]
    by_cases h : i = q
    · subst h
      simp only [Nat.beq_refl, if_true]
      rw [ih]
      by_cases hj : j = i
      · simp [hj]
      · have : Nat.beq j i = false := beq_ne hj
        simp [lookB, this, hj]
    · have hb : Nat.beq i q = false := beq_ne h
      simp only [hb, Bool.false_eq_true, if_false, lookB]
      by_cases hj : j = q
      · subst hj
        have : ¬ j = i := fun e => h e.symm
        simp [this]
      · have hb' : Nat.beq j q = false := beq_ne hj
        simp only [hb', Bool.false_eq_true, if_false]
        rw [ih]

def ABlk.rw : ABlk → Bool
  | .cellsT ro _ _ => !ro
  | .ints _ => false
  | .amap ro _ => !ro
  | _ => true

/-- A row that others may share: it is read by calls, and lists in it are made longer, but nothing is stored in it. -/
def ABlk.isFro : ABlk → Bool
  | .fro _ => true
  | _ => false

/-- A block of the abstract memory as it lies in a world. B: blocks below it are never written. -/
def BRel (ρ : BMap) (B : Nat) (w : World) (x : Nat × Nat × Nat) : ABlk → Prop
  | .cellsT ro cs ty => ∃ (ccs : Array Value) (e : TypeId) (fz : Nat × Nat), w.heap[x.1]? = some (.cells ccs (ty.getD e) fz) ∧
      (∀ (j : Nat) (v : Value), cs[j]? = some v → ∃ u, ccs[x.2.1 + j]? = some u ∧ VRel ρ v u) ∧
      (if ro then x.1 < B else B ≤ x.1 ∧ (fz = (0, 0) ∨ x.2.1 + x.2.2 ≤ fz.1) ∧ x.2.1 + x.2.2 ≤ ccs.size) ∧ cs.length ≤ x.2.2
  | .iter s pos => w.heap[x.1]? = some (.stringIter s pos) ∧ B ≤ x.1 ∧ x.2.1 = 0
  | .loop st pending fn tmps params assign body => B ≤ x.1 ∧ ∃ (ct : Array Value) (d : Nat),
      w.heap[x.1]? = some (.loop { state := st, pending, fn, tmps := ct, params := params.toArray, assign, body, defers := d }) ∧ LRel ρ tmps.list ct
  | .defd => w.heap[x.1]? = some (.deferred (some [])) ∧ B ≤ x.1
  | .ints g => x.1 < B ∧ ∃ (ccs : Array Value) (e : TypeId) (fz : Nat × Nat), w.heap[x.1]? = some (.cells ccs e fz) ∧ (∀ j : Nat, j < x.2.2 → ccs[x.2.1 + j]? = some (.int .i64 (g j))) ∧ x.2.2 ≤ 200
  | .amap ro es => ∃ (ces : Array MapEntry) (clock : Nat), w.heap[x.1]? = some (.map ces clock) ∧ ces.size = es.length ∧
      (∀ (j : Nat) (k v : Value), es[j]? = some (k, v) → ∃ e, ces[j]? = some e ∧ e.key = k ∧ VRel ρ v e.val) ∧ (if ro then x.1 < B else B ≤ x.1)
  | .tcells ex cs ty => x.2.1 = 0 ∧ B ≤ x.1 ∧ ∃ ccs : Array Value, w.heap[x.1]? = some (.cells ccs ty (0, 0)) ∧
      (∀ (j : Nat) (v : Value), cs[j]? = some v → ∃ u, ccs[j]? = some u ∧ VRel ρ v u) ∧ x.2.2 = ccs.size ∧ cs.length ≤ ccs.size ∧ (ex = true → cs.length = ccs.size)
  | .fro cs => ∃ (ccs : Array Value) (e : TypeId) (fz : Nat × Nat), w.heap[x.1]? = some (.cells ccs e fz) ∧
      (∀ (j : Nat) (v : Value), cs[j]? = some v → ∃ u, ccs[x.2.1 + j]? = some u ∧ VRel ρ v u) ∧
      (B ≤ x.1 ∧ (fz = (0, 0) ∨ x.2.1 + x.2.2 ≤ fz.1) ∧ x.2.1 + x.2.2 ≤ ccs.size) ∧ cs.length ≤ x.2.2

/-- The variables lie in a world, below B. -/
def Globs (B : Nat) (w : World) : Prop := ∀ g cs, GV g = some cs → g < B ∧ ∃ (ccs : Array Value) (e : TypeId) (fz : Nat × Nat), w.heap[g]? = some (.cells ccs e fz) ∧ ∀ (j : Nat) (v : Value), cs[j]? = some v → ccs[j]? = some v

theorem Globs.of {B B' : Nat} {w w' : World} (h : Globs B w) (hB : B ≤ B') (hh : ∀ k, k < B → w'.heap[k]? = w.heap[k]?) : Globs B' w' := fun g cs hg => by
  obtain ⟨h1, ccs, e, fz, h2, h3⟩ := h g cs hg
  exact ⟨Nat.lt_of_lt_of_le h1 hB, ccs, e, fz, (hh g h1).trans h2, h3⟩

/-- The abstract memory as it lies in a world. -/
structure HRel (B : Nat) (ρ : BMap) (bs : List (Nat × ABlk)) (w : World) : Prop where
  hB : B ≤ w.heap.size
  blk : ∀ i k, lookB bs i = some k → ∃ x, ρ i = some x ∧ BRel ρ B w x k
  inj : ∀ i j ki kj xi xj, lookB bs i = some ki → lookB bs j = some kj → ki.rw = true → kj.rw = true → ρ i = some xi → ρ j = some xj → xi.1 = xj.1 → i = j ∨ (ki.isFro = true ∧ kj.isFro = true ∧ xi.2.1 = xj.2.1)
  glob : Globs B w

theorem BRel.lt {ρ : BMap} {B : Nat} {w : World} {x : Nat × Nat × Nat} {k : ABlk} (h : BRel ρ B w x k) : x.1 < w.heap.size := by
  have : ∀ o : Obj, w.heap[x.1]? = some o → x.1 < w.heap.size := fun o ho => (Array.getElem?_eq_some_iff.1 ho).1
  cases k with
  | cellsT ro cs ty => obtain ⟨_, _, _, h, _⟩ := h; exact this _ h
  | iter s pos => exact this _ h.1
  | loop st pending fn tmps params assign body => obtain ⟨_, _, _, h, _⟩ := h; exact this _ h
  | defd => exact this _ h.1
  | ints g => obtain ⟨_, _, _, _, h, _⟩ := h; exact this _ h
  | amap ro es => obtain ⟨_, _, h, _⟩ := h; exact this _ h
  | tcells ex cs ty => obtain ⟨_, _, _, h, _⟩ := h; exact this _ h
  | fro cs => obtain ⟨_, _, _, h, _⟩ := h; exact this _ h

theorem BRel.ext {ρ ρ' : BMap} (he : Ext ρ ρ') {B : Nat} {w : World} {x : Nat × Nat × Nat} {k : ABlk} (h : BRel ρ B w x k) : BRel ρ' B w x k := by
  cases k with
  | cellsT ro cs ty =>
    obtain ⟨ccs, e, fz, h1, h2, h3⟩ := h
    exact ⟨ccs, e, fz, h1, fun j v hv => let ⟨u, hu, hr⟩ := h2 j v hv; ⟨u, hu, hr.ext he⟩, h3⟩
  | iter s pos => exact h
  | loop st pending fn tmps params assign body =>
    obtain ⟨hb, ct, d, h1, h2⟩ := h
    exact ⟨hb, ct, d, h1, h2.ext he⟩
  | defd => exact h
  | ints g => exact h
  | amap ro es =>
    obtain ⟨ces, cl, h1, h2, h3, h4⟩ := h
    exact ⟨ces, cl, h1, h2, fun j k v hv => let ⟨e, he1, he2, he3⟩ := h3 j k v hv; ⟨e, he1, he2, he3.ext he⟩, h4⟩
  | tcells ex cs ty =>
    obtain ⟨g1, g2, ccs, h1, h2, h3⟩ := h
    exact ⟨g1, g2, ccs, h1, fun j v hv => let ⟨u, hu, hr⟩ := h2 j v hv; ⟨u, hu, hr.ext he⟩, h3⟩
  | fro cs =>
    obtain ⟨ccs, e, fz, h1, h2, h3⟩ := h
    exact ⟨ccs, e, fz, h1, fun j v hv => let ⟨u, hu, hr⟩ := h2 j v hv; ⟨u, hu, hr.ext he⟩, h3⟩

theorem BRel.same {ρ : BMap} {B : Nat} {w w' : World} {x : Nat × Nat × Nat} {k : ABlk} (h : BRel ρ B w x k) (hw : w'.heap[x.1]? = w.heap[x.1]?) : BRel ρ B w' x k := by
  cases k with
  | cellsT ro cs ty =>
    obtain ⟨ccs, e, fz, h1, h2, h3⟩ := h
    exact ⟨ccs, e, fz, hw.trans h1, h2, h3⟩
  | iter s pos => exact ⟨hw.trans h.1, h.2⟩
  | loop st pending fn tmps params assign body =>
    obtain ⟨hb, ct, d, h1, h2⟩ := h
    exact ⟨hb, ct, d, hw.trans h1, h2⟩
  | defd => exact ⟨hw.trans h.1, h.2⟩
  | ints g =>
    obtain ⟨h0, ccs, e, fz, h1, h2⟩ := h
    exact ⟨h0, ccs, e, fz, hw.trans h1, h2⟩
  | amap ro es =>
    obtain ⟨ces, cl, h1, h2⟩ := h
    exact ⟨ces, cl, hw.trans h1, h2⟩
  | tcells ex cs ty =>
    obtain ⟨g1, g2, ccs, h1, h2⟩ := h
    exact ⟨g1, g2, ccs, hw.trans h1, h2⟩
  | fro cs =>
    obtain ⟨ccs, e, fz, h1, h2⟩ := h
    exact ⟨ccs, e, fz, hw.trans h1, h2⟩

theorem BRel.rw_ge {ρ : BMap} {B : Nat} {w : World} {x : Nat × Nat × Nat} {k : ABlk} (h : BRel ρ B w x k) (hk : k.rw = true) : B ≤ x.1 := by
  cases k with
  | cellsT ro cs ty =>
    obtain ⟨ccs, e, fz, h1, h2, h3⟩ := h
    cases ro with
    | false => exact h3.1.1
    | true => cases hk
  | iter s pos => exact h.2.1
  | loop st pending fn tmps params assign body => exact h.1
  | defd => exact h.2
  | ints g => cases hk
  | amap ro es =>
    obtain ⟨ces, cl, h1, h2, h3, h4⟩ := h
    cases ro with
    | false => exact h4
    | true => cases hk
  | tcells ex cs ty => exact h.2.1
  | fro cs =>
    obtain ⟨ccs, e, fz, h1, h2, h3⟩ := h
    exact h3.1.1

theorem BRel.ro_lt {ρ : BMap} {B : Nat} {w : World} {x : Nat × Nat × Nat} {k : ABlk} (h : BRel ρ B w x k) (hk : k.rw = false) : x.1 < B := by
  cases k with
  | cellsT ro cs ty =>
    obtain ⟨ccs, e, fz, h1, h2, h3⟩ := h
    cases ro with
    | false => cases hk
    | true => exact h3.1
  | iter s pos => cases hk
  | loop st pending fn tmps params assign body => cases hk
  | defd => cases hk
  | ints g => exact h.1
  | amap ro es =>
    obtain ⟨ces, cl, h1, h2, h3, h4⟩ := h
    cases ro with
    | false => cases hk
    | true => exact h4
  | tcells ex cs ty => cases hk
  | fro cs => cases hk

/-- A shared row is one of cells. -/
theorem BRel.unfro {ρ : BMap} {B : Nat} {w : World} {x : Nat × Nat × Nat} {cs : List Value} (h : BRel ρ B w x (.fro cs)) : BRel ρ B w x (.cells false cs) := h
theorem BRel.mkfro {ρ : BMap} {B : Nat} {w : World} {x : Nat × Nat × Nat} {cs : List Value} (h : BRel ρ B w x (.cells false cs)) : BRel ρ B w x (.fro cs) := h

/-- A typed block is one of cells. -/
theorem BRel.unt {ρ : BMap} {B : Nat} {w : World} {x : Nat × Nat × Nat} {ex : Bool} {cs : List Value} {ty : TypeId} (h : BRel ρ B w x (.tcells ex cs ty)) : BRel ρ B w x (.cells false cs) := by
  obtain ⟨g1, g2, ccs, h1, h2, h3, h4, h5⟩ := h
  refine ⟨ccs, ty, (0, 0), h1, fun j v hv => ?_, ?_, by omega⟩
  · obtain ⟨u, hu, hr⟩ := h2 j v hv
    exact ⟨u, by rw [g1, Nat.zero_add]; exact hu, hr⟩
  · simp only [Bool.false_eq_true, if_false]
    exact ⟨g2, .inl trivial, by omega⟩

/-- A part of the memory. -/
theorem HRel.sub {B : Nat} {ρ : BMap} {bs bs' : List (Nat × ABlk)} {w : World} (h : HRel B ρ bs w) (hs : ∀ i k, lookB bs' i = some k → lookB bs i = some k) : HRel B ρ bs' w :=
  ⟨h.hB, fun i k hk => h.blk i k (hs i k hk), fun i j ki kj xi xj hi hj => h.inj i j ki kj xi xj (hs i ki hi) (hs j kj hj), h.glob⟩

/-- A new block. -/
theorem HRel.alloc {B : Nat} {ρ : BMap} {bs : List (Nat × ABlk)} {w : World} (h : HRel B ρ bs w) {n tot : Nat} (hf : ρ n = none) (o : Obj) (k : ABlk)
    (hk : BRel (fun i => if i = n then some (w.heap.size, 0, tot) else ρ i) B (w.alloc o) (w.heap.size, 0, tot) k) :
    Ext ρ (fun i => if i = n then some (w.heap.size, 0, tot) else ρ i) ∧ HRel B (fun i => if i = n then some (w.heap.size, 0, tot) else ρ i) ((n, k) :: bs) (w.alloc o) := by
  have hext : Ext ρ (fun i => if i = n then some (w.heap.size, 0, tot) else ρ i) := by
    intro i x hx
    by_cases e : i = n
    · subst e; rw [hf] at hx; cases hx
    · simpa [e] using hx
  refine ⟨hext, ⟨by simpa using Nat.le_succ_of_le h.hB, ?_, ?_, h.glob.of (Nat.le_refl _) fun k hk => Below.heap_alloc w o k (Nat.lt_of_lt_of_le hk h.hB)⟩⟩
  · intro i ki hi
    simp only [lookB] at hi
    by_cases e : i = n
    · subst e
      simp only [Nat.beq_refl, if_true, Option.some.injEq] at hi
      subst hi
      exact ⟨(w.heap.size, 0, tot), by simp, hk⟩
    · have hb : Nat.beq i n = false := beq_ne e
      simp only [hb, Bool.false_eq_true, if_false] at hi
      obtain ⟨x, hx, hr⟩ := h.blk i ki hi
      exact ⟨x, by simpa [e] using hx, (hr.ext hext).same (Below.heap_alloc w o x.1 hr.lt)⟩
  · intro i j ki kj xi xj hi hj hki hkj hxi hxj heq
    simp only [lookB] at hi hj
    by_cases e : i = n
    · by_cases e' : j = n
      · exact .inl (by rw [e, e'])
      · have hb : Nat.beq j n = false := beq_ne e'
        simp only [hb, Bool.false_eq_true, if_false] at hj
        obtain ⟨x, hx, hr⟩ := h.blk j kj hj
        simp only [e, if_true, Option.some.injEq] at hxi
        simp only [e', if_false] at hxj
        rw [hx] at hxj; cases hxj
        have := hr.lt
        rw [← hxi] at heq; simp at heq; omega
    · have hb : Nat.beq i n = false := beq_ne e
      simp only [hb, Bool.false_eq_true, if_false] at hi
      obtain ⟨x, hx, hr⟩ := h.blk i ki hi
      simp only [e, if_false] at hxi
      rw [hx] at hxi; cases hxi
      by_cases e' : j = n
      · simp only [e', if_true, Option.some.injEq] at hxj
        have := hr.lt
        rw [← hxj] at heq; simp at heq; omega
      · have hb' : Nat.beq j n = false := beq_ne e'
        simp only [hb', Bool.false_eq_true, if_false] at hj
        simp only [e', if_false] at hxj
        exact h.inj i j ki kj xi xj hi hj hki hkj hx hxj heq

end Go.Proofs.Ytjginpeoblilpaa
