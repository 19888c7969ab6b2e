/-
  What is proved: nothing of the program. This text holds lemmas for runs with unknown values: code piece by piece, temporaries, loops, and answers that are told by a function of the arguments. nothing of the program. This text holds lists of cells that hold integers alone, and loads, stores and places in them, whatever the table of types. nothing of the program. This text holds what the abstract run does with each kind of operation, one lemma a kind. nothing of the program. This text holds runs of code in steps that keep what comes behind as code, drawn regions that only read, and what is asked of a memory for them. sets of tiles with lists of any length as arguments; what plainKinds answers. the answers of more small functions of the program and of the document's own answers, for every set. the small functions' answers, as answers that calls may take (for every set and every memory). what tile.Check answers, for every set with lists of at most 200 numbers. what the document's own Check answers, for every set with lists of at most 200 numbers. tile.Check and the document's own Check answer alike, for every set with lists of at most 200 numbers; and what follows for a set that has no error. what Has, Contains, face, Kind, Red, Kinds and Size answer, for every set. what the closure in tile.kinds that yields the kinds of one suit comes to, whatever the loop's body does with them. what the closure that yields all kinds of a set comes to, whatever the loop's body does with them. what tile.find answers for every set and every number. as the closures of tile.kinds, for a loop whose blocks lie one place higher (that of tile.at). what tile.Place and tile.After answer for every set and every number. what is known of calls with a set whose lists are told by functions holds for a set whose lists lie in cells, too. find, Place and After, as answers that calls may take. what tile.at answers for every set without an error, suit and rank. what tile.Mirror answers for every set and every number. what tile.Runs answers for every set and every number. what tile.Swap answers for every set and all numbers. a set whose lists lie in cells, related to a set that is told by functions; calls that answer a list in one new block for such a set. Contains, Has, Size, Kinds, face, Kind and Red of TileBags' seat, as answers that calls may take. the errors of tiles: checkTiles of the program, where a row of truths tells which tiles were seen.
-/
import Derived.Test.YtjginpeoblilpaaEvS
import Derived.Test.YtjginpeoblilpaaEvR
namespace Go.Proofs.Ytjginpeoblilpaa
open Go.RowKit
set_option linter.unusedSimpArgs false
set_option linter.unusedVariables false

section
set_option linter.unusedSimpArgs false
set_option linter.unusedVariables false

theorem loop_ind {F : AF → AH → Option (AX × AF × AH)} {Q : AX → AF → AH → Prop} (I : Nat → AF → AH → Prop)
    (step : ∀ m A H, I m A H → ∃ x A' H', F A H = some (x, A', H') ∧ ((x = .normal ∧ ∃ m', m = m' + 1 ∧ I m' A' H') ∨ (x ≠ .normal ∧ Q x A' H'))) :
    ∀ (m fuel : Nat) (A : AF) (H : AH), m < fuel → I m A H → ∃ x A' H', evLoop F fuel A H = some (x, A', H') ∧ Q x A' H'
  | m, 0, A, H, hm, _ => by omega
  | m, fuel + 1, A, H, hm, hI => by
    obtain ⟨x, A', H', h1, h2⟩ := step m A H hI
    rcases h2 with ⟨rfl, m', rfl, hI'⟩ | ⟨hx, hq⟩
    · obtain ⟨y, A2, H2, h3, h4⟩ := loop_ind I step m' fuel A' H' (by omega) hI'
      exact ⟨y, A2, H2, by simp only [evLoop, h1, h3], h4⟩
    · refine ⟨x, A', H', ?_, hq⟩
      cases x with
      | normal => exact absurd rfl hx
      | exit id => simp only [evLoop, h1]
      | ret => simp only [evLoop, h1]

/-- The run of a loop's body (a name that is not written out). -/
noncomputable def runC (T : TypeId → Option TI) (call : Value → List Value → AH → Option (Value × AH)) (lf : Nat) (fn : FuncId) (rd : Option Nat) (c : Code) (A : AF) (H : AH) : Option (AX × AF × AH) := evCode T call lf fn rd c A H

section
variable {T : TypeId → Option TI} {call : Value → List Value → AH → Option (Value × AH)} {lf : Nat} {fn : FuncId} {rd : Option Nat} {A : AF} {H : AH}
theorem ec_skip : evCode T call lf fn rd .skip A H = some (.normal, A, H) := rfl
theorem ec_label {x} : evCode T call lf fn rd (.label x) A H = some (.normal, A, H) := rfl
theorem ec_reg {i ops} : evCode T call lf fn rd (.region i ops false) A H = match evSeq T call ops ops.toList A H with
    | some (A', H') => some (.normal, A', H')
    | none => none := rfl
theorem ec_draw {i ops} : evCode T call lf fn rd (.region i ops true) A H = match evDrawX T call ops A H with
    | some (A', H') => some (.normal, A', H')
    | none => none := rfl
theorem ec_seq {x y} : evCode T call lf fn rd (.seq x y) A H = match evCode T call lf fn rd x A H with
    | some (.normal, A', H') => evCode T call lf fn rd y A' H'
    | some (.exit id, A', H') => some (.exit id, A', H')
    | some (.ret, A', H') => some (.ret, A', H')
    | none => none := rfl
theorem ec_cond {c x y} : evCode T call lf fn rd (.cond c x y) A H = match opd A.tm c with
    | some (.bool true) => evCode T call lf fn rd x A H
    | some (.bool false) => evCode T call lf fn rd y A H
    | _ => none := rfl
theorem ec_block {id c} : evCode T call lf fn rd (.block id c) A H = match evCode T call lf fn rd c A H with
    | some (.exit id', A', H') => if Nat.beq id' id then some (.normal, A', H') else some (.exit id', A', H')
    | some (.normal, A', H') => some (.normal, A', H')
    | some (.ret, A', H') => some (.ret, A', H')
    | none => none := rfl
theorem ec_loop {c} : evCode T call lf fn rd (.loop c) A H = evLoop (runC T call lf fn rd c) lf A H := rfl
theorem ec_exit {id} : evCode T call lf fn rd (.exit id) A H = some (.exit id, A, H) := rfl
theorem ec_ret : evCode T call lf fn rd .ret A H = some (.ret, A, H) := rfl
theorem ec_scope {c} : evCode T call lf fn rd (.scope c) A H = evCode T call lf fn rd c A H := rfl
end

theorem tm_n_set (t : Tm) (i : Nat) (v : Value) : (t.set i v).n = t.n := by
  rw [Tm.set_if]; split <;> rfl
theorem tm_get_set (t : Tm) (i j : Nat) (v : Value) (h : i < t.n) : (t.set i v).get j = if j = i then v else t.get j := by
  rw [Tm.get_eq, Tm.list_set, Tm.get_eq, List.getElem?_set, Tm.list_length]
  by_cases e : i = j
  · subst e; simp [h]
  · have e' : ¬ j = i := fun h => e h.symm
    simp [e, e']
theorem tm_of_n (l : List Value) (n : Nat) : (Tm.of l n).n = l.length + (n - l.length) := rfl
theorem tm_of_get (l : List Value) (n j : Nat) : (Tm.of l n).get j = (l[j]?).getD undefV := by
  rw [Tm.get_eq, Tm.list_of, List.getElem?_append]
  split
  · rfl
  · rename_i h
    rw [List.getElem?_replicate, List.getElem?_eq_none (by omega)]
    split <;> rfl

theorem tm_tr_set (t : Tm) (i j : Nat) (v : Value) (h : i < t.n) : (t.set i v).tr.get j = if j = i then v else t.tr.get j := by
  rw [Tm.set_if, if_pos (by simpa [Nat.blt_eq] using h)]
  exact Tr.get_set _ _ _ _ _ (Nat.lt_succ_self i)
theorem tm_tr_of (l : List Value) (n j : Nat) : (Tm.of l n).tr.get j = if j < l.length then (l[j]?).getD undefV else undefV := by
  show (Tr.ofL l 0 .lf).get j = _
  rw [Tr.get_ofL]
  simp only [Nat.zero_le, true_and, Nat.zero_add, Nat.sub_zero]
  rfl

theorem wrapI_small {n : Int} (h1 : -9223372036854775808 ≤ n) (h2 : n ≤ 9223372036854775807) : wrapI .i64 n = n := by
  simp only [wrapI]
  omega

/-- What a round of a loop has come to. -/
def LStep (I : Nat → AF → AH → Prop) (Q : AX → AF → AH → Prop) (m : Nat) (r : AX × AF × AH) : Prop :=
  (r.1 = .normal ∧ ∃ m', m = m' + 1 ∧ I m' r.2.1 r.2.2) ∨ (r.1 ≠ .normal ∧ Q r.1 r.2.1 r.2.2)

theorem loop_go {F : AF → AH → Option (AX × AF × AH)} {fuel : Nat} {A0 : AF} {H1 : AH} {r : Option (AX × AF × AH)} (hr : evLoop F fuel A0 H1 = r) {Q : AX → AF → AH → Prop} (I : Nat → AF → AH → Prop) (m : Nat) (hm : m < fuel) (hI : I m A0 H1)
    (step : ∀ m A H, I m A H → ∃ r, F A H = some r ∧ LStep I Q m r) : ∃ x A' H', r = some (x, A', H') ∧ Q x A' H' := by
  obtain ⟨x, A', H', h1, h2⟩ := loop_ind (Q := Q) I (fun m A H h => let ⟨⟨x, A', H'⟩, h1, h2⟩ := step m A H h; ⟨x, A', H', h1, h2⟩) m fuel A0 H1 hm hI
  exact ⟨x, A', H', by rw [← hr, h1], h2⟩

/-- An answer that is told by a function of the arguments, over a small memory of their own. -/
noncomputable def canH (f : FuncId) (ans : List Value → AH → Option Value) : Value → List Value → AH → Option (Value × AH) := fun fv args H =>
  match fv with
  | .func (.func f') ⟨[]⟩ ⟨[]⟩ =>
    if Nat.beq f' f then
      match canon args H with
      | some (cargs, Hc) => match ans cargs Hc with
        | some v => some (v, H)
        | none => none
      | none => none
    else none
  | _ => none

def AnsOK (call0 : Value → List Value → AH → Option (Value × AH)) (f : FuncId) (ans : List Value → AH → Option Value) : Prop :=
  ∀ cargs Hc v, ans cargs Hc = some v → closedV 5 v = true ∧ (Real cargs Hc → ∃ H', call0 (.func (.func f) #[] #[]) cargs Hc = some (v, H'))

theorem canH_ok {P : Program} {call0 : Value → List Value → AH → Option (Value × AH)} (hC : CallOK P call0) {f : FuncId} {ans : List Value → AH → Option Value} (ha : AnsOK call0 f ans) : CallOK P (canH f ans) := by
  intro fv args H v H' h
  unfold canH at h
  split at h
  · rename_i f'
    split at h
    · rename_i hf
      split at h
      · rename_i cargs Hc hcan
        split at h
        · rename_i v' he
          cases h
          have hff : f' = f := Nat.eq_of_beq_eq_true hf
          subst hff
          obtain ⟨hv, hcall⟩ := ha _ _ _ he
          refine ⟨Nat.le_refl _, fun B ρ w fv' args' hfv hargs hH _ => ?_⟩
          obtain ⟨n, fr, g1, g2, g3⟩ := transfer hC hcan hcall hv hargs hH
          cases hfv with
          | func hs _ =>
            have hc' := Array.eq_empty_of_size_eq_zero hs.symm
            subst hc'
            refine ⟨.func f', #[], n, fr, rfl, g1, g2, fun c cs => ?_⟩
            obtain ⟨w', st, hvv, hH', hb⟩ := g3 c cs
            exact ⟨ρ, w', v, st, hvv, Ext.refl ρ, fun _ _ => rfl, hH', hb.mono hH.hB⟩
        · cases h
      · cases h
    · cases h
  · cases h


end

section
set_option linter.unusedSimpArgs false
set_option linter.unusedVariables false

def isI : Value → Bool
  | .int .i64 _ => true
  | _ => false
/-- A list of so many cells, all of them integers. -/
def okC (cs : List Value) (m : Nat) : Bool := Nat.beq cs.length m && cs.all isI
/-- The integer in a cell. -/
def gi (cs : List Value) (j : Nat) : Int := match cs[j]? with | some (.int _ z) => z | _ => 0

theorem okC_len {cs : List Value} {m : Nat} (h : okC cs m = true) : cs.length = m := by
  simp only [okC, Bool.and_eq_true] at h
  exact Nat.eq_of_beq_eq_true h.1
theorem okC_at {cs : List Value} {m : Nat} (h : okC cs m = true) {j : Nat} (hj : j < m) : cs[j]? = some (.int .i64 (gi cs j)) := by
  have hl := okC_len h
  simp only [okC, Bool.and_eq_true] at h
  have hlt : j < cs.length := by omega
  have h2 := List.all_eq_true.1 h.2 cs[j] (List.getElem_mem hlt)
  unfold gi
  rw [List.getElem?_eq_getElem hlt]
  generalize cs[j] = v at h2
  unfold isI at h2
  split at h2
  · rfl
  · cases h2
theorem okC_closed {cs : List Value} {m : Nat} (h : okC cs m = true) : cs.all (closedV 3) = true := by
  simp only [okC, Bool.and_eq_true] at h
  refine List.all_eq_true.2 fun v hv => ?_
  have := List.all_eq_true.1 h.2 v hv
  unfold isI at this
  split at this
  · simp [closedV]
  · cases this
/-- Cells that hold these integers. -/
def intsL (g : Nat → Int) (n : Nat) : List Value := (List.range n).map fun j => .int .i64 (g j)
theorem intsL_len (g : Nat → Int) (n : Nat) : (intsL g n).length = n := by simp [intsL]
theorem intsL_at (g : Nat → Int) (n j : Nat) (h : j < n) : (intsL g n)[j]? = some (.int .i64 (g j)) := by
  simp [intsL, List.getElem?_range h]
theorem intsL_ok (g : Nat → Int) (n : Nat) : okC (intsL g n) n = true := by
  simp only [okC, intsL_len, Nat.beq_refl, Bool.true_and]
  refine List.all_eq_true.2 fun v hv => ?_
  obtain ⟨j, hj, rfl⟩ := List.mem_map.1 hv
  rfl

section
variable {T : TypeId → Option TI}
theorem ldc {t : TypeId} (h : (T t).map (fun y => aggD y.desc) = some false) (H : AH) (i off : Nat) : aLoad T H t (.pointer (some ⟨i, off, none⟩)) = match lookB H.bs i with | some (.cells _ cs) => cs[off]? | _ => none := by
  cases ht : T t with
  | none => rw [ht] at h; cases h
  | some y =>
    rw [ht] at h
    simp only [Option.map_some, Option.some.injEq] at h
    simp only [aLoad, ht]
    cases hl : lookB H.bs i with
    | none => rfl
    | some k =>
      cases k with
      | cellsT ro cs ty => cases ty <;> simp [h, getR_eq]
      | _ => rfl
theorem lda {t : TypeId} {z : Nat} (h : (T t).map (fun y => (aggD y.desc, y.size)) = some (true, z)) (H : AH) (i off : Nat) : aLoad T H t (.pointer (some ⟨i, off, none⟩)) = match lookB H.bs i with | some (.cells _ cs) => (takeCells cs off z).map (fun l => .agg l.toArray) | _ => none := by
  cases ht : T t with
  | none => rw [ht] at h; cases h
  | some y =>
    rw [ht] at h
    simp only [Option.map_some, Option.some.injEq, Prod.mk.injEq] at h
    simp only [aLoad, ht]
    cases hl : lookB H.bs i with
    | none => rfl
    | some k =>
      cases k with
      | cellsT ro cs ty => cases ty <;> simp [h]
      | _ => rfl
theorem sti {t : TypeId} {z : Nat} (h : (T t).map (·.size) = some z) (H : AH) (i off : Nat) (v : Value) : aStore T H t (.pointer (some ⟨i, off, none⟩)) v = match lookB H.bs i with
    | some (.cells false cs) => if Nat.beq v.cells.toList.length z && Nat.ble (off + v.cells.toList.length) cs.length && v.cells.toList.all cellV then some { H with bs := setB H.bs i (.cells false (putF cs off v.cells.toList)) } else none
    | _ => none := by
  cases ht : T t with
  | none => rw [ht] at h; cases h
  | some y =>
    rw [ht] at h
    simp only [Option.map_some, Option.some.injEq] at h
    simp only [aStore, ht]
    cases hl : lookB H.bs i with
    | none => rfl
    | some k =>
      cases k with
      | cellsT ro cs ty => cases ty <;> cases ro <;> simp [h]
      | _ => rfl
theorem ixa {t e : TypeId} {z : Nat} (h1 : (T t).map (·.desc) = some (.slice e)) (h2 : (T e).map (·.size) = some z) (i off n sz k : Nat) (h : k < n) : aIndexAddr T t (.slice (some ⟨i, off, none⟩) n sz) (.int .i64 (k : Int)) = some (.pointer (some ⟨i, off + k * z, none⟩)) := by
  cases ht : T t with
  | none => rw [ht] at h1; cases h1
  | some y =>
    rw [ht] at h1
    simp only [Option.map_some, Option.some.injEq] at h1
    cases he : T e with
    | none => rw [he] at h2; cases h2
    | some q =>
      rw [he] at h2
      simp only [Option.map_some, Option.some.injEq] at h2
      cases y with
      | mk a b c d ex =>
        simp only at h1
        subst h1
        have hb : Nat.blt k n = true := by simpa [Nat.blt_eq] using h
        simp [aIndexAddr, natV, ht, he, h2, hb]
theorem lens {t e : TypeId} (h1 : (T t).map (·.desc) = some (.slice e)) (a : Option Addr) (n z : Nat) : aLen T t (.slice a n z) = some (.int .i64 n) := by
  cases ht : T t with
  | none => rw [ht] at h1; cases h1
  | some y =>
    rw [ht] at h1
    simp only [Option.map_some, Option.some.injEq] at h1
    cases y with
    | mk s b c d ex =>
      simp only at h1
      subst h1
      simp [aLen, ht]
theorem tkc (cs : List Value) (off n : Nat) : takeCells cs off n = if n ≤ (cs.drop off).length then some ((cs.drop off).take n) else none := by
  unfold takeCells; rw [takeK_eq, dropR_eq]
end


end

section
set_option linter.unusedSimpArgs false
set_option linter.unusedVariables false

section
variable {T : TypeId → Option TI} {call : Value → List Value → AH → Option (Value × AH)} {g : Operand → Option Value} {H : AH}

/-- An operation's run, by what it does alone. -/
noncomputable def evO (T : TypeId → Option TI) (call : Value → List Value → AH → Option (Value × AH)) (op : Op) (g : Operand → Option Value) (H : AH) : Option (Value × AH) := evOp T call ⟨none, op, 0, "", #[], none⟩ g H
theorem evOp_evO {d : Option Tmp} {op : Op} {t : TypeId} {p : String} {a : Array Edge} {gd : Option (Nat × Bool)} : evOp T call ⟨d, op, t, p, a, gd⟩ g H = evO T call op g H := rfl

theorem evO_v {op : Op} {v : Value} (h : vOp T g op = some v) : evO T call op g H = some (v, H) := by
  unfold evO evOp; simp only [h]
theorem evO_h {op : Op} {r : Value × AH} (h0 : vOp T g op = none) (h : hOpB T g H op = some r) : evO T call op g H = some r := by
  unfold evO evOp; simp only [h0, h]

theorem eo_alloc {t : TypeId} {cs : List Value} (h : (T t).map (fun y => (y.ex.ub, y.zero.cells.toList)) = some (false, cs)) : evO T call (.alloc t) g H = some (aAlloc H cs) := by
  apply evO_h
  · simp only [vOp]
  · cases ht : T t with
    | none => rw [ht] at h; cases h
    | some y =>
      rw [ht] at h
      simp only [Option.map_some, Option.some.injEq, Prod.mk.injEq] at h
      simp only [hOpB, ht, h.1, hOp, h.2]
      rfl
theorem eo_call1 {f : FuncId} {t : TypeId} {x : Operand} {u : Value} (hf : g (.func f) = some (.func (.func f) #[] #[])) (hx : g x = some u) (hn : (T t).map (fun z => (z.ex.nat f, z.ex.mnz f)) = some (none, none)) :
    evO T call (.call ⟨.value (.func f), #[x], #[t]⟩) g H = call (.func (.func f) #[] #[]) [u] H := by
  cases ht : T t with
  | none => rw [ht] at hn; cases hn
  | some z =>
    rw [ht] at hn
    simp only [Option.map_some, Option.some.injEq, Prod.mk.injEq] at hn
    simp [evO, evOp, vOp, hOpB, hOpU, hOp, hOpT, hf, hx, ht, hn.1, hn.2, mapO, boundOf]
theorem eo_call2 {f : FuncId} {t t' : TypeId} {x y : Operand} {u v : Value} (hf : g (.func f) = some (.func (.func f) #[] #[])) (hx : g x = some u) (hy : g y = some v) (hu : ∀ s, u ≠ .string s) :
    evO T call (.call ⟨.value (.func f), #[x, y], #[t, t']⟩) g H = call (.func (.func f) #[] #[]) [u, v] H := by
  cases u <;> first | (exact absurd rfl (hu _)) | simp [evO, evOp, vOp, hOpB, hOpU, hOp, hOpT, hf, hx, hy, mapO, boundOf]
theorem eo_call2n {f : FuncId} {t t' : TypeId} {x y : Operand} {u v : Value} (hf : g (.func f) = some (.func (.func f) #[] #[])) (hx : g x = some u) (hy : g y = some v) (hn : (T t).map (fun z => z.ex.nat f) = some none) :
    evO T call (.call ⟨.value (.func f), #[x, y], #[t, t']⟩) g H = call (.func (.func f) #[] #[]) [u, v] H := by
  by_cases hu : ∃ s, u = .string s
  · obtain ⟨s, rfl⟩ := hu
    cases ht : T t with
    | none => rw [ht] at hn; cases hn
    | some z =>
      rw [ht] at hn
      simp only [Option.map_some, Option.some.injEq] at hn
      cases v with
      | int k n => cases k <;> simp [evO, evOp, vOp, hOpB, hOpU, hOp, hOpT, hf, hx, hy, ht, hn, mapO, boundOf]
      | _ => simp [evO, evOp, vOp, hOpB, hOpU, hOp, hOpT, hf, hx, hy, ht, hn, mapO, boundOf]
  · exact eo_call2 hf hx hy fun s h => hu ⟨s, h⟩
theorem eo_call3 {f : FuncId} {ts : Array TypeId} {x y z : Operand} {u v w : Value} (hf : g (.func f) = some (.func (.func f) #[] #[])) (hx : g x = some u) (hy : g y = some v) (hz : g z = some w) :
    evO T call (.call ⟨.value (.func f), #[x, y, z], ts⟩) g H = call (.func (.func f) #[] #[]) [u, v, w] H := by
  simp [evO, evOp, vOp, hOpB, hOpU, hOp, hOpT, hf, hx, hy, hz, mapO, boundOf]
theorem eo_call0 {f : FuncId} (hf : g (.func f) = some (.func (.func f) #[] #[])) :
    evO T call (.call ⟨.value (.func f), #[], #[]⟩) g H = call (.func (.func f) #[] #[]) [] H := by
  simp [evO, evOp, vOp, hOpB, hOpU, hOp, hOpT, hf, mapO, boundOf]
end

theorem cvt {T : TypeId → Option TI} {g : Operand → Option Value} {s d : TypeId} {x : Operand} {k : IntKind} (h1 : (T s).isSome = true) (h2 : (T d).map (·.desc) = some (.int k)) :
    vOp T g (.convert s d x) = match g x with | some (.int _ n) => some (.int k (wrapI k n)) | _ => none := by
  cases hs : T s with
  | none => rw [hs] at h1; cases h1
  | some a =>
    cases hd : T d with
    | none => rw [hd] at h2; cases h2
    | some b =>
      rw [hd] at h2
      simp only [Option.map_some, Option.some.injEq] at h2
      cases b with
      | mk a b c e ex =>
        simp only at h2
        subst h2
        simp only [vOp, hs, hd]
        cases hg : g x with
        | none => rfl
        | some v => cases v <;> rfl

theorem tdesc {T : TypeId → Option TI} {t : TypeId} {d : TypeDesc} (h : (T t).map (·.desc) = some d) : ∃ s b z ex, T t = some ⟨s, b, z, d, ex⟩ := by
  cases hd : T t with
  | none => rw [hd] at h; cases h
  | some y =>
    rw [hd] at h
    cases y with
    | mk a b c e ex =>
      simp only [Option.map_some, Option.some.injEq] at h
      subst h
      exact ⟨_, _, _, _, rfl⟩

theorem opd_tmp (tm : Tm) (t : Tmp) : opd tm (.tmp t) = some (tm.get t) := rfl
end

section
set_option linter.unusedSimpArgs false
set_option linter.unusedVariables false

section
variable (T : TypeId → Option TI) (call : Value → List Value → AH → Option (Value × AH)) (lf : Nat) (fn : FuncId) (rd : Option Nat)
noncomputable def seqK (y : Code) : Option (AX × AF × AH) → Option (AX × AF × AH)
  | some (.normal, A', H') => evCode T call lf fn rd y A' H'
  | r => r
noncomputable def blockK (id : Nat) : Option (AX × AF × AH) → Option (AX × AF × AH)
  | some (.exit id', A', H') => if Nat.beq id' id then some (.normal, A', H') else some (.exit id', A', H')
  | r => r
noncomputable def regK : Option (AF × AH) → Option (AX × AF × AH)
  | some (A', H') => some (.normal, A', H')
  | none => none
noncomputable def opK (ops : Array Oper) (dst : Option Tmp) (r : List Oper) (A : AF) : Option (Value × AH) → Option (AF × AH)
  | some (v, H') => evSeq T call ops r { A with tm := putT A.tm dst v } H'
  | none => none
variable {T call lf fn rd} {A : AF} {H : AH}
theorem ek_seq {x y} : evCode T call lf fn rd (.seq x y) A H = seqK T call lf fn rd y (evCode T call lf fn rd x A H) := by
  rw [ec_seq]
  rcases evCode T call lf fn rd x A H with _ | ⟨_ | _ | _, _, _⟩ <;> rfl
theorem ek_block {id c} : evCode T call lf fn rd (.block id c) A H = blockK id (evCode T call lf fn rd c A H) := by
  rw [ec_block]
  rcases evCode T call lf fn rd c A H with _ | ⟨_ | _ | _, _, _⟩ <;> rfl
theorem ek_reg {i ops} : evCode T call lf fn rd (.region i ops false) A H = regK (evSeq T call ops ops.toList A H) := by
  rw [ec_reg]
  rcases evSeq T call ops ops.toList A H with _ | ⟨_, _⟩ <;> rfl
theorem ek_draw {i ops} : evCode T call lf fn rd (.region i ops true) A H = regK (evDrawX T call ops A H) := by
  rw [ec_draw]
  rcases evDrawX T call ops A H with _ | ⟨_, _⟩ <;> rfl
theorem ek_nil {ops} : evSeq T call ops [] A H = some (A, H) := rfl
theorem ek_op {ops o r} : evSeq T call ops (o :: r) A H = if aWanted o ops A.tm then opK T call ops o.dst r A (evOp T call o (opd A.tm) H) else evSeq T call ops r { A with tm := putT A.tm o.dst undef } H := by
  rw [evSeq]
  rcases evOp T call o (opd A.tm) H with _ | ⟨_, _⟩ <;> rfl
theorem opK_some {ops dst r v H'} : opK T call ops dst r A (some (v, H')) = evSeq T call ops r { A with tm := putT A.tm dst v } H' := rfl
theorem regK_some {A' : AF} {H' : AH} : regK (some (A', H')) = some (.normal, A', H') := rfl
theorem seqK_normal {y} {A' : AF} {H' : AH} : seqK T call lf fn rd y (some (.normal, A', H')) = evCode T call lf fn rd y A' H' := rfl
theorem seqK_exit {y id} {A' : AF} {H' : AH} : seqK T call lf fn rd y (some (.exit id, A', H')) = some (.exit id, A', H') := rfl
theorem seqK_ret {y} {A' : AF} {H' : AH} : seqK T call lf fn rd y (some (.ret, A', H')) = some (.ret, A', H') := rfl
theorem blockK_normal {id} {A' : AF} {H' : AH} : blockK id (some (.normal, A', H')) = some (.normal, A', H') := rfl
theorem blockK_ret {id} {A' : AF} {H' : AH} : blockK id (some (.ret, A', H')) = some (.ret, A', H') := rfl
theorem blockK_exit {id id'} {A' : AF} {H' : AH} : blockK id (some (.exit id', A', H')) = if Nat.beq id' id then some (.normal, A', H') else some (.exit id', A', H') := rfl
end

/-- A drawn region that only reads. -/
theorem draw_ro {T : TypeId → Option TI} {call : Value → List Value → AH → Option (Value × AH)} {ops : Array Oper} {A : AF} {H : AH} {X : Option (AF × AH)} (hX : evDrawX T call ops A H = X) {Pt : Tm → Prop} (hS : statOK ops = true) (hk : decrK H.bs = true)
    (h : ∃ rs, drRun T call ops A.tm H.bs (befs ops.toList) ops.toList 0 [] H.next = some (rs, H.next) ∧ dynOK (befs ops.toList) rs A.tm.n = true ∧ wheap H.bs rs = H.bs ∧ Pt (finT A.tm rs)) :
    ∃ tm', X = some (⟨tm', A.marks⟩, H) ∧ tm'.n = A.tm.n ∧ Pt tm' := by
  obtain ⟨rs, h1, h2, h3, h4⟩ := h
  refine ⟨finT A.tm rs, ?_, (finT_spec A.tm rs).1, h4⟩
  rw [← hX]
  have : evDraw T call ops A H = some (⟨finT A.tm rs, A.marks⟩, H) := by
    simp only [evDraw, hS, hk, Bool.and_self, if_true]
    rw [h1]
    simp only [h2, if_true, h3]
  simp only [evDrawX, this]

/-- A drawn region. -/
theorem draw_any {T : TypeId → Option TI} {call : Value → List Value → AH → Option (Value × AH)} {ops : Array Oper} {A : AF} {H H' : AH} {X : Option (AF × AH)} (hX : evDrawX T call ops A H = X) {Pt : Tm → Prop} (hS : statOK ops = true) (hk : decrK H.bs = true)
    (h : ∃ rs nx, drRun T call ops A.tm H.bs (befs ops.toList) ops.toList 0 [] H.next = some (rs, nx) ∧ dynOK (befs ops.toList) rs A.tm.n = true ∧ (⟨nx, wheap H.bs rs⟩ : AH) = H' ∧ Pt (finT A.tm rs)) :
    ∃ tm', X = some (⟨tm', A.marks⟩, H') ∧ tm'.n = A.tm.n ∧ Pt tm' := by
  obtain ⟨rs, nx, h1, h2, h3, h4⟩ := h
  refine ⟨finT A.tm rs, ?_, (finT_spec A.tm rs).1, h4⟩
  rw [← hX]
  have : evDraw T call ops A H = some (⟨finT A.tm rs, A.marks⟩, H') := by
    simp only [evDraw, hS, hk, Bool.and_self, if_true]
    rw [h1]
    simp only [h2, if_true, h3]
  simp only [evDrawX, this]

/-- A memory whose blocks have falling numbers, all of them below the next one. -/
def MI (H : AH) : Prop := decrK H.bs = true ∧ ∀ p ∈ H.bs, p.1 < H.next

theorem MI.push {H : AH} (h : MI H) (k : ABlk) : MI ⟨H.next + 1, (H.next, k) :: H.bs⟩ := by
  obtain ⟨h1, h2⟩ := h
  refine ⟨?_, fun p hp => ?_⟩
  · show decrK ((H.next, k) :: H.bs) = true
    cases hb : H.bs with
    | nil => rfl
    | cons q r =>
      obtain ⟨j, k'⟩ := q
      have hj := h2 (j, k') (by rw [hb]; exact List.mem_cons_self)
      rw [hb] at h1
      simp only [decrK, Bool.and_eq_true]
      exact ⟨by simpa [Nat.blt_eq] using hj, h1⟩
  · rcases List.mem_cons.1 hp with rfl | hp
    · exact Nat.lt_succ_self _
    · exact Nat.lt_succ_of_lt (h2 p hp)

theorem setB_ids (i : Nat) (k : ABlk) : ∀ bs : List (Nat × ABlk), (setB bs i k).map (·.1) = bs.map (·.1)
  | [] => rfl
  | (j, q) :: r => by
    simp only [setB]
    split
    · rfl
    · simp [setB_ids i k r]
theorem decrK_ids : ∀ (a b : List (Nat × ABlk)), a.map (·.1) = b.map (·.1) → decrK a = decrK b
  | [], [], _ => rfl
  | [], _ :: _, h => by simp at h
  | _ :: _, [], h => by simp at h
  | [(i, k)], [(j, q)], _ => rfl
  | [_], _ :: _ :: _, h => by simp at h
  | _ :: _ :: _, [_], h => by simp at h
  | (i, k) :: (i2, k2) :: r, (j, q) :: (j2, q2) :: s, h => by
    simp only [List.map_cons, List.cons.injEq] at h
    obtain ⟨h1, h2, h3⟩ := h
    simp only [decrK]
    rw [h1, decrK_ids ((i2, k2) :: r) ((j2, q2) :: s) (by simp [h2, h3]), h2]
theorem MI.set {H : AH} (h : MI H) (i : Nat) (k : ABlk) : MI ⟨H.next, setB H.bs i k⟩ := by
  obtain ⟨h1, h2⟩ := h
  refine ⟨(decrK_ids _ _ (setB_ids i k H.bs)).trans h1, fun p hp => ?_⟩
  have : p.1 ∈ (setB H.bs i k).map (·.1) := List.mem_map.2 ⟨p, hp, rfl⟩
  rw [setB_ids] at this
  obtain ⟨q, hq, e⟩ := List.mem_map.1 this
  rw [← e]
  exact h2 q hq
theorem MI.new {H : AH} (h : MI H) : newOnes H.next (roB H.bs) = [] := by
  cases hb : roB H.bs with
  | nil => rfl
  | cons p r =>
    obtain ⟨i, k⟩ := p
    obtain ⟨q, hq, _⟩ := roB_mem (bs := H.bs) (p := (i, k)) (by rw [hb]; exact List.mem_cons_self)
    have hi : i < H.next := h.2 _ hq
    have : Nat.ble H.next i = false := by
      cases hh : Nat.ble H.next i with
      | false => rfl
      | true => have := Nat.le_of_ble_eq_true hh; omega
    simp only [newOnes, this, Bool.false_eq_true, if_false]
theorem lookB_roB_cells : ∀ (bs : List (Nat × ABlk)) (i : Nat) (ro : Bool) (cs : List Value), lookB bs i = some (.cells ro cs) → decrK bs = true → lookB (roB bs) i = some (.cells true cs)
  | [], i, ro, cs, h, _ => by cases h
  | (j, k) :: r, i, ro, cs, h, hd => by
    have hd' : decrK r = true := by
      cases r with
      | nil => rfl
      | cons q r =>
        obtain ⟨a, b⟩ := q
        simp only [decrK, Bool.and_eq_true] at hd
        exact hd.2
    simp only [lookB] at h
    split at h
    · rename_i hb
      cases h
      simp only [roB, roK, lookB, hb, if_true]
    · rename_i hb
      have ih := lookB_roB_cells r i ro cs h hd'
      simp only [roB]
      split
      · simp only [lookB, hb, Bool.false_eq_true, if_false, ih]
      · exact ih
/-- Whether a number lies between two. -/
def btw (n a b : Int) : Bool := decide (a ≤ n) && decide (n ≤ b)


end

section
set_option linter.unusedSimpArgs false
set_option linter.unusedVariables false

theorem b02 : Nat.beq 0 2 = false := rfl
theorem b12 : Nat.beq 1 2 = false := rfl
theorem b32 : Nat.beq 3 2 = false := rfl
theorem wrapI_one : wrapI .i64 1 = 1 := wrapI_small (by omega) (by omega)
/-- What lies at a place. -/
noncomputable def cellAt (bs : List (Nat × ABlk)) (i off : Nat) : Option Value :=
  match lookB bs i with
  | some (.cells _ cs) => cs[off]?
  | _ => none
theorem LD3 (H : AH) (i off : Nat) : aLoad (tabT Try.prog) H 3 (.pointer (some ⟨i, off, none⟩)) = cellAt H.bs i off := ldc (by kernel_rfl) H i off
theorem LD4 (H : AH) (i off : Nat) : aLoad (tabT Try.prog) H 4 (.pointer (some ⟨i, off, none⟩)) = cellAt H.bs i off := ldc (by kernel_rfl) H i off
theorem LD22 (H : AH) (i off : Nat) : aLoad (tabT Try.prog) H 22 (.pointer (some ⟨i, off, none⟩)) = cellAt H.bs i off := ldc (by kernel_rfl) H i off
theorem LD27 (H : AH) (i off : Nat) : aLoad (tabT Try.prog) H 35 (.pointer (some ⟨i, off, none⟩)) = cellAt H.bs i off := ldc (by kernel_rfl) H i off
theorem LD24 (H : AH) (i off : Nat) : aLoad (tabT Try.prog) H 24 (.pointer (some ⟨i, off, none⟩)) = match lookB H.bs i with | some (.cells _ cs) => (takeCells cs off 9).map (fun l => .agg l.toArray) | _ => none := lda (by kernel_rfl) H i off
theorem ldr {T : TypeId → Option TI} {t : TypeId} (h : (T t).map (fun y => aggD y.desc) = some false) (H : AH) (i off : Nat) : aLoad T H t (.pointer (some ⟨i, off, some 1⟩)) = match lookB H.bs i with | some (.ints g) => some (.int .i64 (g off)) | _ => none := by
  cases ht : T t with
  | none => rw [ht] at h; cases h
  | some y =>
    rw [ht] at h
    simp only [Option.map_some, Option.some.injEq] at h
    simp only [aLoad, ht]
    cases hl : lookB H.bs i with
    | none => rfl
    | some k => cases k <;> simp [h]
theorem LDr (H : AH) (i off : Nat) : aLoad (tabT Try.prog) H 3 (.pointer (some ⟨i, off, some 1⟩)) = match lookB H.bs i with | some (.ints g) => some (.int .i64 (g off)) | _ => none := ldr (by kernel_rfl) H i off
theorem ixt {T : TypeId → Option TI} {t e : TypeId} (h1 : (T t).map (·.desc) = some (.slice e)) (h2 : (T e).map (·.size) = some 1) (i n k : Nat) (h : k < n) : aIndexAddr T t (.slice (some ⟨i, 0, some 1⟩) n 0) (.int .i64 (k : Int)) = some (.pointer (some ⟨i, k, some 1⟩)) := by
  obtain ⟨_, _, _, _, ht⟩ := tdesc h1
  cases he : T e with
  | none => rw [he] at h2; cases h2
  | some q =>
    rw [he] at h2
    simp only [Option.map_some, Option.some.injEq] at h2
    have hb : Nat.blt k n = true := by simpa [Nat.blt_eq] using h
    simp [aIndexAddr, natV, ht, he, h2, hb]
theorem IA22 (i n k : Nat) (h : k < n) : aIndexAddr (tabT Try.prog) 22 (.slice (some ⟨i, 0, some 1⟩) n 0) (.int .i64 (k : Int)) = some (.pointer (some ⟨i, k, some 1⟩)) := ixt (e := 3) (by kernel_rfl) (by kernel_rfl) i n k h
theorem LEN22 (a : Option Addr) (n z : Nat) : aLen (tabT Try.prog) 22 (.slice a n z) = some (.int .i64 n) := lens (e := 3) (by kernel_rfl) a n z
theorem FA24_0 (i off : Nat) : aFieldAddr (tabT Try.prog) 24 (.pointer (some ⟨i, off, none⟩)) 0 = some (.pointer (some ⟨i, off + 0, none⟩)) := by kernel_rfl
theorem FA24_1 (i off : Nat) : aFieldAddr (tabT Try.prog) 24 (.pointer (some ⟨i, off, none⟩)) 1 = some (.pointer (some ⟨i, off + 1, none⟩)) := by kernel_rfl
theorem FA24_2 (i off : Nat) : aFieldAddr (tabT Try.prog) 24 (.pointer (some ⟨i, off, none⟩)) 2 = some (.pointer (some ⟨i, off + 2, none⟩)) := by kernel_rfl
theorem FA24_3 (i off : Nat) : aFieldAddr (tabT Try.prog) 24 (.pointer (some ⟨i, off, none⟩)) 3 = some (.pointer (some ⟨i, off + 3, none⟩)) := by kernel_rfl
theorem FA24_4 (i off : Nat) : aFieldAddr (tabT Try.prog) 24 (.pointer (some ⟨i, off, none⟩)) 4 = some (.pointer (some ⟨i, off + 4, none⟩)) := by kernel_rfl
theorem FA24_5 (i off : Nat) : aFieldAddr (tabT Try.prog) 24 (.pointer (some ⟨i, off, none⟩)) 5 = some (.pointer (some ⟨i, off + 5, none⟩)) := by kernel_rfl
theorem FA24_6 (i off : Nat) : aFieldAddr (tabT Try.prog) 24 (.pointer (some ⟨i, off, none⟩)) 6 = some (.pointer (some ⟨i, off + 6, none⟩)) := by kernel_rfl
theorem FA24_7 (i off : Nat) : aFieldAddr (tabT Try.prog) 24 (.pointer (some ⟨i, off, none⟩)) 7 = some (.pointer (some ⟨i, off + 7, none⟩)) := by kernel_rfl
theorem FA24_8 (i off : Nat) : aFieldAddr (tabT Try.prog) 24 (.pointer (some ⟨i, off, none⟩)) 8 = some (.pointer (some ⟨i, off + 8, none⟩)) := by kernel_rfl
theorem N75 : ((tabT Try.prog) 24).map (fun z => (z.ex.nat 84, z.ex.mnz 84)) = some (none, none) := by kernel_rfl
theorem C75 (call : Value → List Value → AH → Option (Value × AH)) {tm : Tm} {k : Nat} {H : AH} {d : Option Tmp} {t : TypeId} {p : String} {a : Array Edge} {gd : Option (Nat × Bool)} : evOp (tabT Try.prog) call ⟨d, .call ⟨.value (.func 84), #[.tmp k], #[24]⟩, t, p, a, gd⟩ (opd tm) H = call (.func (.func 84) #[] #[]) [tm.get k] H :=
  evOp_evO.trans (eo_call1 rfl rfl N75)
theorem G75 (call : Value → List Value → AH → Option (Value × AH)) {tm : Tm} {rs : List DR} {ts : List Nat} {k : Nat} {H : AH} {d : Option Tmp} {t : TypeId} {p : String} {a : Array Edge} {gd : Option (Nat × Bool)} (h : natMem ts k = true) : evOp (tabT Try.prog) call ⟨d, .call ⟨.value (.func 84), #[.tmp k], #[24]⟩, t, p, a, gd⟩ (gOf tm rs ts) H = call (.func (.func 84) #[] #[]) [(finT tm rs).get k] H :=
  evOp_evO.trans (eo_call1 rfl (by simp only [gOf, h, if_true]) N75)
theorem N76 : ((tabT Try.prog) 24).map (fun z => (z.ex.nat 80, z.ex.mnz 80)) = some (none, none) := by kernel_rfl
theorem C76 (call : Value → List Value → AH → Option (Value × AH)) {tm : Tm} {k : Nat} {H : AH} {d : Option Tmp} {t : TypeId} {p : String} {a : Array Edge} {gd : Option (Nat × Bool)} : evOp (tabT Try.prog) call ⟨d, .call ⟨.value (.func 80), #[.tmp k], #[24]⟩, t, p, a, gd⟩ (opd tm) H = call (.func (.func 80) #[] #[]) [tm.get k] H :=
  evOp_evO.trans (eo_call1 rfl rfl N76)
theorem G76 (call : Value → List Value → AH → Option (Value × AH)) {tm : Tm} {rs : List DR} {ts : List Nat} {k : Nat} {H : AH} {d : Option Tmp} {t : TypeId} {p : String} {a : Array Edge} {gd : Option (Nat × Bool)} (h : natMem ts k = true) : evOp (tabT Try.prog) call ⟨d, .call ⟨.value (.func 80), #[.tmp k], #[24]⟩, t, p, a, gd⟩ (gOf tm rs ts) H = call (.func (.func 80) #[] #[]) [(finT tm rs).get k] H :=
  evOp_evO.trans (eo_call1 rfl (by simp only [gOf, h, if_true]) N76)
theorem N77 : ((tabT Try.prog) 24).map (fun z => (z.ex.nat 74, z.ex.mnz 74)) = some (none, none) := by kernel_rfl
theorem C77 (call : Value → List Value → AH → Option (Value × AH)) {tm : Tm} {k : Nat} {H : AH} {d : Option Tmp} {t : TypeId} {p : String} {a : Array Edge} {gd : Option (Nat × Bool)} : evOp (tabT Try.prog) call ⟨d, .call ⟨.value (.func 74), #[.tmp k], #[24]⟩, t, p, a, gd⟩ (opd tm) H = call (.func (.func 74) #[] #[]) [tm.get k] H :=
  evOp_evO.trans (eo_call1 rfl rfl N77)
theorem G77 (call : Value → List Value → AH → Option (Value × AH)) {tm : Tm} {rs : List DR} {ts : List Nat} {k : Nat} {H : AH} {d : Option Tmp} {t : TypeId} {p : String} {a : Array Edge} {gd : Option (Nat × Bool)} (h : natMem ts k = true) : evOp (tabT Try.prog) call ⟨d, .call ⟨.value (.func 74), #[.tmp k], #[24]⟩, t, p, a, gd⟩ (gOf tm rs ts) H = call (.func (.func 74) #[] #[]) [(finT tm rs).get k] H :=
  evOp_evO.trans (eo_call1 rfl (by simp only [gOf, h, if_true]) N77)
theorem N79 : ((tabT Try.prog) 24).map (fun z => (z.ex.nat 55, z.ex.mnz 55)) = some (none, none) := by kernel_rfl
theorem C79 (call : Value → List Value → AH → Option (Value × AH)) {tm : Tm} {k : Nat} {H : AH} {d : Option Tmp} {t : TypeId} {p : String} {a : Array Edge} {gd : Option (Nat × Bool)} : evOp (tabT Try.prog) call ⟨d, .call ⟨.value (.func 55), #[.tmp k], #[24]⟩, t, p, a, gd⟩ (opd tm) H = call (.func (.func 55) #[] #[]) [tm.get k] H :=
  evOp_evO.trans (eo_call1 rfl rfl N79)
theorem G79 (call : Value → List Value → AH → Option (Value × AH)) {tm : Tm} {rs : List DR} {ts : List Nat} {k : Nat} {H : AH} {d : Option Tmp} {t : TypeId} {p : String} {a : Array Edge} {gd : Option (Nat × Bool)} (h : natMem ts k = true) : evOp (tabT Try.prog) call ⟨d, .call ⟨.value (.func 55), #[.tmp k], #[24]⟩, t, p, a, gd⟩ (gOf tm rs ts) H = call (.func (.func 55) #[] #[]) [(finT tm rs).get k] H :=
  evOp_evO.trans (eo_call1 rfl (by simp only [gOf, h, if_true]) N79)
theorem N17 : ((tabT Try.prog) 24).map (fun z => (z.ex.nat 63, z.ex.mnz 63)) = some (none, none) := by kernel_rfl
theorem C17 (call : Value → List Value → AH → Option (Value × AH)) {tm : Tm} {k : Nat} {H : AH} {d : Option Tmp} {t : TypeId} {p : String} {a : Array Edge} {gd : Option (Nat × Bool)} : evOp (tabT Try.prog) call ⟨d, .call ⟨.value (.func 63), #[.tmp k], #[24]⟩, t, p, a, gd⟩ (opd tm) H = call (.func (.func 63) #[] #[]) [tm.get k] H :=
  evOp_evO.trans (eo_call1 rfl rfl N17)
theorem G17 (call : Value → List Value → AH → Option (Value × AH)) {tm : Tm} {rs : List DR} {ts : List Nat} {k : Nat} {H : AH} {d : Option Tmp} {t : TypeId} {p : String} {a : Array Edge} {gd : Option (Nat × Bool)} (h : natMem ts k = true) : evOp (tabT Try.prog) call ⟨d, .call ⟨.value (.func 63), #[.tmp k], #[24]⟩, t, p, a, gd⟩ (gOf tm rs ts) H = call (.func (.func 63) #[] #[]) [(finT tm rs).get k] H :=
  evOp_evO.trans (eo_call1 rfl (by simp only [gOf, h, if_true]) N17)
theorem N18 : ((tabT Try.prog) 24).map (fun z => (z.ex.nat 51, z.ex.mnz 51)) = some (none, none) := by kernel_rfl
theorem C18 (call : Value → List Value → AH → Option (Value × AH)) {tm : Tm} {k : Nat} {H : AH} {d : Option Tmp} {t : TypeId} {p : String} {a : Array Edge} {gd : Option (Nat × Bool)} : evOp (tabT Try.prog) call ⟨d, .call ⟨.value (.func 51), #[.tmp k], #[24]⟩, t, p, a, gd⟩ (opd tm) H = call (.func (.func 51) #[] #[]) [tm.get k] H :=
  evOp_evO.trans (eo_call1 rfl rfl N18)
theorem G18 (call : Value → List Value → AH → Option (Value × AH)) {tm : Tm} {rs : List DR} {ts : List Nat} {k : Nat} {H : AH} {d : Option Tmp} {t : TypeId} {p : String} {a : Array Edge} {gd : Option (Nat × Bool)} (h : natMem ts k = true) : evOp (tabT Try.prog) call ⟨d, .call ⟨.value (.func 51), #[.tmp k], #[24]⟩, t, p, a, gd⟩ (gOf tm rs ts) H = call (.func (.func 51) #[] #[]) [(finT tm rs).get k] H :=
  evOp_evO.trans (eo_call1 rfl (by simp only [gOf, h, if_true]) N18)
theorem N22 : ((tabT Try.prog) 24).map (fun z => (z.ex.nat 54, z.ex.mnz 54)) = some (none, none) := by kernel_rfl
theorem C22 (call : Value → List Value → AH → Option (Value × AH)) {tm : Tm} {k : Nat} {H : AH} {d : Option Tmp} {t : TypeId} {p : String} {a : Array Edge} {gd : Option (Nat × Bool)} : evOp (tabT Try.prog) call ⟨d, .call ⟨.value (.func 54), #[.tmp k], #[24]⟩, t, p, a, gd⟩ (opd tm) H = call (.func (.func 54) #[] #[]) [tm.get k] H :=
  evOp_evO.trans (eo_call1 rfl rfl N22)
theorem G22 (call : Value → List Value → AH → Option (Value × AH)) {tm : Tm} {rs : List DR} {ts : List Nat} {k : Nat} {H : AH} {d : Option Tmp} {t : TypeId} {p : String} {a : Array Edge} {gd : Option (Nat × Bool)} (h : natMem ts k = true) : evOp (tabT Try.prog) call ⟨d, .call ⟨.value (.func 54), #[.tmp k], #[24]⟩, t, p, a, gd⟩ (gOf tm rs ts) H = call (.func (.func 54) #[] #[]) [(finT tm rs).get k] H :=
  evOp_evO.trans (eo_call1 rfl (by simp only [gOf, h, if_true]) N22)
theorem N71 : ((tabT Try.prog) 24).map (fun z => (z.ex.nat 88, z.ex.mnz 88)) = some (none, none) := by kernel_rfl
theorem C71 (call : Value → List Value → AH → Option (Value × AH)) {tm : Tm} {k : Nat} {H : AH} {d : Option Tmp} {t : TypeId} {p : String} {a : Array Edge} {gd : Option (Nat × Bool)} : evOp (tabT Try.prog) call ⟨d, .call ⟨.value (.func 88), #[.tmp k], #[24]⟩, t, p, a, gd⟩ (opd tm) H = call (.func (.func 88) #[] #[]) [tm.get k] H :=
  evOp_evO.trans (eo_call1 rfl rfl N71)
theorem G71 (call : Value → List Value → AH → Option (Value × AH)) {tm : Tm} {rs : List DR} {ts : List Nat} {k : Nat} {H : AH} {d : Option Tmp} {t : TypeId} {p : String} {a : Array Edge} {gd : Option (Nat × Bool)} (h : natMem ts k = true) : evOp (tabT Try.prog) call ⟨d, .call ⟨.value (.func 88), #[.tmp k], #[24]⟩, t, p, a, gd⟩ (gOf tm rs ts) H = call (.func (.func 88) #[] #[]) [(finT tm rs).get k] H :=
  evOp_evO.trans (eo_call1 rfl (by simp only [gOf, h, if_true]) N71)
theorem W75 : wrT 84 = false := by kernel_rfl
theorem W76 : wrT 80 = false := by kernel_rfl
theorem W77 : wrT 74 = false := by kernel_rfl
theorem W79 : wrT 55 = false := by kernel_rfl
theorem W17 : wrT 63 = false := by kernel_rfl
theorem W18 : wrT 51 = false := by kernel_rfl
theorem W22 : wrT 54 = false := by kernel_rfl
theorem W71 : wrT 88 = false := by kernel_rfl
theorem T3x : ∃ s b z ex, (tabT Try.prog) 3 = some ⟨s, b, z, .int .i64, ex⟩ ∧ ex.nat 90 = none ∧ ex.mnz 90 = none := by
  have h : ((tabT Try.prog) 3).map (fun y => (y.desc, y.ex.nat 90, y.ex.mnz 90)) = some (.int .i64, none, none) := by kernel_rfl
  cases hd : (tabT Try.prog) 3 with
  | none => rw [hd] at h; cases h
  | some y =>
    rw [hd] at h
    cases y with
    | mk a b c e ex =>
      simp only [Option.map_some, Option.some.injEq, Prod.mk.injEq] at h
      obtain ⟨rfl, h1, h2⟩ := h
      exact ⟨_, _, _, _, rfl, h1, h2⟩
theorem tm_fin (tm : Tm) (rs : List DR) (t : Nat) (h : t < tm.n) : (finT tm rs).get t = tv tm all1 rs t := fin_get tm rs t h
theorem fin_n (tm : Tm) (rs : List DR) : (finT tm rs).n = tm.n := (finT_spec tm rs).1
theorem evDraw_ex {T : TypeId → Option TI} {call : Value → List Value → AH → Option (Value × AH)} {ops : Array Oper} {A : AF} {H : AH} {X : Option (AF × AH)} (hX : evDrawX T call ops A H = X) {Pq : List DR × Nat → Prop} (hS : statOK ops = true) (hk : decrK H.bs = true)
    (h : ∃ r, drRun T call ops A.tm H.bs (befs ops.toList) ops.toList 0 [] H.next = some r ∧ dynOK (befs ops.toList) r.1 A.tm.n = true ∧ Pq r) :
    ∃ r, X = some (⟨finT A.tm r.1, A.marks⟩, ⟨r.2, wheap H.bs r.1⟩) ∧ Pq r := by
  obtain ⟨⟨rs, nx⟩, h1, h2, h3⟩ := h
  refine ⟨(rs, nx), ?_, h3⟩
  rw [← hX]
  have : evDraw T call ops A H = some (⟨finT A.tm rs, A.marks⟩, ⟨nx, wheap H.bs rs⟩) := by
    simp only [evDraw, hS, hk, Bool.and_self, if_true]
    rw [h1]
    simp only [h2, if_true]
  simp only [evDrawX, this]
/-- A set of tiles: seven numbers, and two lists by their lengths and places. -/
structure SV where
  p : Int
  n : Nat
  g : Nat → Int
  w : Int
  d : Int
  f : Int
  c : Int
  m : Int
  de : Int
  k : Nat
  h : Nat → Int

noncomputable def SV.val (s : SV) : Value := .agg ⟨[.int .i64 s.p, .slice (some ⟨0, 0, some 1⟩) s.n 0, .int .i64 s.w, .int .i64 s.d, .int .i64 s.f, .int .i64 s.c, .int .i64 s.m, .int .i64 s.de, .slice (some ⟨1, 0, some 1⟩) s.k 0]⟩

noncomputable def SV.hp (s : SV) : AH := ⟨2, [(1, .ints s.h), (0, .ints s.g)]⟩

noncomputable def seeSet : Value → AH → Option SV
  | .agg ⟨[.int .i64 p, .slice (some ⟨0, 0, some 1⟩) n 0, .int .i64 w, .int .i64 d, .int .i64 f, .int .i64 c, .int .i64 m, .int .i64 de, .slice (some ⟨1, 0, some 1⟩) k 0]⟩, ⟨2, [(1, .ints h), (0, .ints g)]⟩ =>
    some ⟨p, n, g, w, d, f, c, m, de, k, h⟩
  | _, _ => none

theorem seeSet_spec {v : Value} {H : AH} {s : SV} (h : seeSet v H = some s) : v = s.val ∧ H = s.hp := by
  unfold seeSet at h
  split at h
  · cases h; exact ⟨rfl, rfl⟩
  · cases h

/-- Answers that hang on a set alone. -/
noncomputable def ans1 (a : SV → Option Value) : List Value → AH → Option Value
  | [v], H => match seeSet v H with
    | some s => a s
    | none => none
  | _, _ => none

theorem ans1_ok {call0 : Value → List Value → AH → Option (Value × AH)} {f : FuncId} {a : SV → Option Value}
    (h : ∀ s v, a s = some v → closedV 5 v = true ∧ (s.n ≤ 200 → s.k ≤ 200 → ∃ H', call0 (.func (.func f) #[] #[]) [s.val] s.hp = some (v, H'))) : AnsOK call0 f (ans1 a) := by
  intro cargs Hc v hv
  unfold ans1 at hv
  split at hv
  · split at hv
    · rename_i s hs
      obtain ⟨rfl, rfl⟩ := seeSet_spec hs
      refine ⟨(h s v hv).1, fun hr => (h s v hv).2 ?_ ?_⟩
      · exact hr.lenIn (j := 0) (q := 1) (i := 0) (g := s.g) rfl rfl rfl
      · exact hr.lenIn (j := 0) (q := 8) (i := 1) (g := s.h) rfl rfl rfl
    · cases hv
  · cases hv

noncomputable def sumG (g : Nat → Int) : Nat → Nat → Int → Int
  | 0, _, a => a
  | m + 1, i, a => sumG g m (i + 1) (wrapI .i64 (a + g i))

noncomputable def SV.plain (s : SV) : Int := sumG s.g s.n 0 (wrapI .i64 (s.w + s.d))

theorem F75 : tabF Try.prog 84 = some Try.f84 := by kernel_rfl

noncomputable def I75 (s : SV) (m : Nat) (A : AF) (H : AH) : Prop := ∃ (i : Nat) (acc : Int), i + m = s.n ∧ sumG s.g m i acc = s.plain ∧ A.tm.n = 23 ∧ A.marks = [] ∧ A.tm.get 3 = .int .i64 acc ∧ A.tm.get 14 = .int .i64 (i : Int) ∧ A.tm.get 13 = .int .i64 s.n ∧ A.tm.get 12 = .slice (some ⟨0, 0, some 1⟩) s.n 0 ∧ lookB H.bs 0 = some (.ints s.g)
noncomputable def Q75 (s : SV) (x : AX) (A' : AF) (_ : AH) : Prop := x = .exit 0 ∧ A'.tm.n = 23 ∧ A'.marks = [] ∧ A'.tm.get 3 = .int .i64 s.plain

set_option maxRecDepth 10000 in
set_option maxHeartbeats 2000000 in
theorem plainKinds_ev (call : Value → List Value → AH → Option (Value × AH)) (s : SV) (hn : s.n ≤ 200) : ∃ H', evFn (tabT Try.prog) call 300 kpT 84 Try.f84 [s.val] s.hp = some (.int .i64 s.plain, H') := by
  simp only [evFn, Try.f84, SV.val, SV.hp]
  simp [ec_skip, ec_label, ek_reg, ek_draw, ek_seq, ec_cond, ek_block, ec_loop, ec_exit, ec_ret, ec_scope, ek_nil, ek_op, opK_some, regK_some, seqK_normal, seqK_exit, seqK_ret, blockK_normal, blockK_exit, blockK_ret, evOp, vOp, hOpB, hOpU, hOp, hOpT, aAppendG_tab, aWanted, aYielded, opd, putT, closedV, aBin, intOp, sameK, mapO, joinR, hasAddr, boundOf, pushB, aAlloc, Value.cells, lookB, setB, Nat.beq_eq, tm_n_set, tm_get_set, tm_of_n, tm_of_get, tm_tr_set, tm_tr_of, cellV, putF, appR_eq, takeR_eq, dropR_eq, setR_eq, getR_eq, ↓C75, ↓C76, ↓C77, ↓C79, ↓C17, ↓C18, ↓C22, ↓C71, FA24_0, FA24_1, FA24_2, FA24_3, FA24_4, FA24_5, FA24_6, FA24_7, FA24_8, LD3, LD4, LD22, LD27, LDr, LD24, LEN22, IA22, tkc, cellAt]
  generalize hr : evLoop _ _ _ _ = r
  obtain ⟨x, A', H', rfl, rfl, hl, hmk, h3⟩ := loop_go (Q := Q75 s) hr
    (I75 s)
    s.n (by omega) ⟨0, _, by omega, rfl, rfl, rfl, rfl, rfl, rfl, rfl, rfl⟩ (by
      clear hr
      rintro m A H ⟨i, acc, him, hsum, hl, hmk, h3, h14, h13, h12, hH⟩
      simp only [runC]
      cases m with
      | zero =>
        have hi : ¬ i < s.n := by omega
        simp only [sumG] at hsum
        simp [ec_skip, ec_label, ek_reg, ek_draw, ek_seq, ec_cond, ek_block, ec_loop, ec_exit, ec_ret, ec_scope, ek_nil, ek_op, opK_some, regK_some, seqK_normal, seqK_exit, seqK_ret, blockK_normal, blockK_exit, blockK_ret, evOp, vOp, hOpB, hOpU, hOp, hOpT, aAppendG_tab, aWanted, aYielded, opd, putT, closedV, aBin, intOp, sameK, mapO, joinR, hasAddr, boundOf, pushB, aAlloc, Value.cells, lookB, setB, Nat.beq_eq, tm_n_set, tm_get_set, tm_of_n, tm_of_get, tm_tr_set, tm_tr_of, cellV, putF, appR_eq, takeR_eq, dropR_eq, setR_eq, getR_eq, ↓C75, ↓C76, ↓C77, ↓C79, ↓C17, ↓C18, ↓C22, ↓C71, FA24_0, FA24_1, FA24_2, FA24_3, FA24_4, FA24_5, FA24_6, FA24_7, FA24_8, LD3, LD4, LD22, LD27, LDr, LD24, LEN22, IA22, tkc, cellAt, hl, hmk, h3, h14, h13, h12, hi]
        exact .inr ⟨by simp, rfl, by simp [tm_n_set, hl], rfl, by simp [tm_get_set, hl, h3, hsum]⟩
      | succ m =>
        have hi : i < s.n := by omega
        simp [ec_skip, ec_label, ek_reg, ek_draw, ek_seq, ec_cond, ek_block, ec_loop, ec_exit, ec_ret, ec_scope, ek_nil, ek_op, opK_some, regK_some, seqK_normal, seqK_exit, seqK_ret, blockK_normal, blockK_exit, blockK_ret, evOp, vOp, hOpB, hOpU, hOp, hOpT, aAppendG_tab, aWanted, aYielded, opd, putT, closedV, aBin, intOp, sameK, mapO, joinR, hasAddr, boundOf, pushB, aAlloc, Value.cells, lookB, setB, Nat.beq_eq, tm_n_set, tm_get_set, tm_of_n, tm_of_get, tm_tr_set, tm_tr_of, cellV, putF, appR_eq, takeR_eq, dropR_eq, setR_eq, getR_eq, ↓C75, ↓C76, ↓C77, ↓C79, ↓C17, ↓C18, ↓C22, ↓C71, FA24_0, FA24_1, FA24_2, FA24_3, FA24_4, FA24_5, FA24_6, FA24_7, FA24_8, LD3, LD4, LD22, LD27, LDr, LD24, LEN22, IA22, tkc, cellAt, hl, hmk, h3, h14, h13, h12, hH, hi]
        refine .inl ⟨rfl, m, rfl, i + 1, wrapI .i64 (acc + s.g i), by omega, hsum, ?_⟩
        have hw : wrapI .i64 ((i : Int) + 1) = ((i + 1 : Nat) : Int) := by rw [wrapI_small (by omega) (by omega)]; rfl
        simp [tm_get_set, tm_n_set, hl, h13, h12, hH, hw])
  simp [ec_skip, ec_label, ek_reg, ek_draw, ek_seq, ec_cond, ek_block, ec_loop, ec_exit, ec_ret, ec_scope, ek_nil, ek_op, opK_some, regK_some, seqK_normal, seqK_exit, seqK_ret, blockK_normal, blockK_exit, blockK_ret, evOp, vOp, hOpB, hOpU, hOp, hOpT, aAppendG_tab, aWanted, aYielded, opd, putT, closedV, aBin, intOp, sameK, mapO, joinR, hasAddr, boundOf, pushB, aAlloc, Value.cells, lookB, setB, Nat.beq_eq, tm_n_set, tm_get_set, tm_of_n, tm_of_get, tm_tr_set, tm_tr_of, cellV, putF, appR_eq, takeR_eq, dropR_eq, setR_eq, getR_eq, ↓C75, ↓C76, ↓C77, ↓C79, ↓C17, ↓C18, ↓C22, ↓C71, FA24_0, FA24_1, FA24_2, FA24_3, FA24_4, FA24_5, FA24_6, FA24_7, FA24_8, LD3, LD4, LD22, LD27, LDr, LD24, LEN22, IA22, tkc, cellAt, finF, takeM, resV, hl, hmk, h3]


end

section
set_option linter.unusedSimpArgs false
set_option linter.unusedVariables false



theorem F72 : tabF Try.prog 52 = some Try.f52 := by kernel_rfl
theorem F78 : tabF Try.prog 76 = some Try.f76 := by kernel_rfl
theorem F74 : tabF Try.prog 90 = some Try.f90 := by kernel_rfl
theorem F77 : tabF Try.prog 74 = some Try.f74 := by kernel_rfl
theorem F79 : tabF Try.prog 55 = some Try.f55 := by kernel_rfl
theorem F71 : tabF Try.prog 88 = some Try.f88 := by kernel_rfl
theorem F109 : tabF Try.prog 98 = some Try.f98 := by kernel_rfl
theorem F73 : tabF Try.prog 89 = some Try.f89 := by kernel_rfl
theorem F76 : tabF Try.prog 80 = some Try.f80 := by kernel_rfl
theorem F17 : tabF Try.prog 63 = some Try.f63 := by kernel_rfl
theorem F18 : tabF Try.prog 51 = some Try.f51 := by kernel_rfl

set_option maxRecDepth 10000 in
set_option maxHeartbeats 4000000 in
theorem between_ev (call : Value → List Value → AH → Option (Value × AH)) (n l m : Int) (H : AH) : ∃ H', evFn (tabT Try.prog) call 300 kpT 52 Try.f52 [.int .i64 n, .int .i64 l, .int .i64 m] H = some (.bool (btw n l m), H') := by
  simp only [evFn, Try.f52, btw]
  by_cases h1 : l ≤ n <;> by_cases h2 : n ≤ m <;> simp [ec_skip, ec_label, ek_reg, ek_draw, ek_seq, ec_cond, ek_block, ec_loop, ec_exit, ec_ret, ec_scope, ek_nil, ek_op, opK_some, regK_some, seqK_normal, seqK_exit, seqK_ret, blockK_normal, blockK_exit, blockK_ret, evOp, vOp, hOpB, hOpU, hOp, hOpT, aAppendG_tab, aWanted, aYielded, opd, putT, closedV, aBin, intOp, sameK, mapO, joinR, hasAddr, boundOf, pushB, aAlloc, Value.cells, lookB, setB, Nat.beq_eq, tm_n_set, tm_get_set, tm_of_n, tm_of_get, tm_tr_set, tm_tr_of, cellV, putF, appR_eq, takeR_eq, dropR_eq, setR_eq, getR_eq, ↓C75, ↓C76, ↓C77, ↓C79, ↓C17, ↓C18, ↓C22, ↓C71, FA24_0, FA24_1, FA24_2, FA24_3, FA24_4, FA24_5, FA24_6, FA24_7, FA24_8, LD3, LD4, LD22, LD27, LDr, LD24, LEN22, IA22, tkc, cellAt, finF, takeM, resV, kpT, h1, h2]

set_option maxRecDepth 10000 in
set_option maxHeartbeats 4000000 in
theorem rbetween_ev (call : Value → List Value → AH → Option (Value × AH)) (n l m : Int) (H : AH) : ∃ H', evFn (tabT Try.prog) call 300 kpT 76 Try.f76 [.int .i64 n, .int .i64 l, .int .i64 m] H = some (.bool (btw n l m), H') := by
  simp only [evFn, Try.f76, btw]
  by_cases h1 : l ≤ n <;> by_cases h2 : n ≤ m <;> simp [ec_skip, ec_label, ek_reg, ek_draw, ek_seq, ec_cond, ek_block, ec_loop, ec_exit, ec_ret, ec_scope, ek_nil, ek_op, opK_some, regK_some, seqK_normal, seqK_exit, seqK_ret, blockK_normal, blockK_exit, blockK_ret, evOp, vOp, hOpB, hOpU, hOp, hOpT, aAppendG_tab, aWanted, aYielded, opd, putT, closedV, aBin, intOp, sameK, mapO, joinR, hasAddr, boundOf, pushB, aAlloc, Value.cells, lookB, setB, Nat.beq_eq, tm_n_set, tm_get_set, tm_of_n, tm_of_get, tm_tr_set, tm_tr_of, cellV, putF, appR_eq, takeR_eq, dropR_eq, setR_eq, getR_eq, ↓C75, ↓C76, ↓C77, ↓C79, ↓C17, ↓C18, ↓C22, ↓C71, FA24_0, FA24_1, FA24_2, FA24_3, FA24_4, FA24_5, FA24_6, FA24_7, FA24_8, LD3, LD4, LD22, LD27, LDr, LD24, LEN22, IA22, tkc, cellAt, finF, takeM, resV, kpT, h1, h2]

set_option maxRecDepth 10000 in
set_option maxHeartbeats 4000000 in
theorem badSuit_ev (call : Value → List Value → AH → Option (Value × AH)) (hb : ∀ (n l m : Int) (H : AH), call (.func (.func 52) #[] #[]) [.int .i64 n, .int .i64 l, .int .i64 m] H = some (.bool (btw n l m), H)) (n : Int) (H : AH) : ∃ H', evFn (tabT Try.prog) call 300 kpT 90 Try.f90 [.int .i64 n] H = some (.bool (!btw n 1 9), H') := by
  simp only [evFn, Try.f90]
  simp [ec_skip, ec_label, ek_reg, ek_draw, ek_seq, ec_cond, ek_block, ec_loop, ec_exit, ec_ret, ec_scope, ek_nil, ek_op, opK_some, regK_some, seqK_normal, seqK_exit, seqK_ret, blockK_normal, blockK_exit, blockK_ret, evOp, vOp, hOpB, hOpU, hOp, hOpT, aAppendG_tab, aWanted, aYielded, opd, putT, closedV, aBin, intOp, sameK, mapO, joinR, hasAddr, boundOf, pushB, aAlloc, Value.cells, lookB, setB, Nat.beq_eq, tm_n_set, tm_get_set, tm_of_n, tm_of_get, tm_tr_set, tm_tr_of, cellV, putF, appR_eq, takeR_eq, dropR_eq, setR_eq, getR_eq, ↓C75, ↓C76, ↓C77, ↓C79, ↓C17, ↓C18, ↓C22, ↓C71, FA24_0, FA24_1, FA24_2, FA24_3, FA24_4, FA24_5, FA24_6, FA24_7, FA24_8, LD3, LD4, LD22, LD27, LDr, LD24, LEN22, IA22, tkc, cellAt, finF, takeM, resV, kpT, hb]

noncomputable def SV.full (s : SV) : Int := wrapI .i64 (wrapI .i64 (3 * s.m) + 1)

set_option maxRecDepth 10000 in
set_option maxHeartbeats 4000000 in
theorem full_ev (call : Value → List Value → AH → Option (Value × AH)) (s : SV) : ∃ H', evFn (tabT Try.prog) call 300 kpT 74 Try.f74 [s.val] s.hp = some (.int .i64 s.full, H') := by
  simp only [evFn, Try.f74, SV.val, SV.hp, SV.full]
  simp [ec_skip, ec_label, ek_reg, ek_draw, ek_seq, ec_cond, ek_block, ec_loop, ec_exit, ec_ret, ec_scope, ek_nil, ek_op, opK_some, regK_some, seqK_normal, seqK_exit, seqK_ret, blockK_normal, blockK_exit, blockK_ret, evOp, vOp, hOpB, hOpU, hOp, hOpT, aAppendG_tab, aWanted, aYielded, opd, putT, closedV, aBin, intOp, sameK, mapO, joinR, hasAddr, boundOf, pushB, aAlloc, Value.cells, lookB, setB, Nat.beq_eq, tm_n_set, tm_get_set, tm_of_n, tm_of_get, tm_tr_set, tm_tr_of, cellV, putF, appR_eq, takeR_eq, dropR_eq, setR_eq, getR_eq, ↓C75, ↓C76, ↓C77, ↓C79, ↓C17, ↓C18, ↓C22, ↓C71, FA24_0, FA24_1, FA24_2, FA24_3, FA24_4, FA24_5, FA24_6, FA24_7, FA24_8, LD3, LD4, LD22, LD27, LDr, LD24, LEN22, IA22, tkc, cellAt, finF, takeM, resV, kpT]

/-- What checkReds says of the numbers from the i-th on. -/
noncomputable def redsG (h : Nat → Int) (last : Int) : Nat → Nat → Int → Int
  | 0, _, _ => 0
  | m + 1, i, b => if btw (h i) 0 last then (if h i ≤ b then 11 else redsG h last m (i + 1) (h i)) else 2

noncomputable def SV.reds (s : SV) : Int := redsG s.h (wrapI .i64 (s.plain - 1)) s.k 0 (-1)

noncomputable def I71 (s : SV) (m : Nat) (A : AF) (H : AH) : Prop := ∃ (i : Nat) (b : Int), i + m = s.k ∧ redsG s.h (wrapI .i64 (s.plain - 1)) m i b = s.reds ∧ A.tm.n = 26 ∧ A.marks = [] ∧ A.tm.get 3 = .int .i64 (wrapI .i64 (s.plain - 1)) ∧ A.tm.get 4 = .int .i64 b ∧ A.tm.get 13 = .int .i64 (i : Int) ∧ A.tm.get 12 = .int .i64 s.k ∧ A.tm.get 11 = .slice (some ⟨1, 0, some 1⟩) s.k 0 ∧ lookB H.bs 1 = some (.ints s.h)
noncomputable def Q71 (s : SV) (x : AX) (A' : AF) (_ : AH) : Prop := A'.tm.n = 26 ∧ A'.marks = [] ∧ ((x = .exit 0 ∧ s.reds = 0) ∨ (x = .ret ∧ A'.tm.get 2 = .int .i64 s.reds))

set_option maxRecDepth 10000 in
set_option maxHeartbeats 4000000 in
theorem checkReds_ev (call : Value → List Value → AH → Option (Value × AH)) (hb : ∀ (n l m : Int) (H : AH), call (.func (.func 52) #[] #[]) [.int .i64 n, .int .i64 l, .int .i64 m] H = some (.bool (btw n l m), H)) (hp : ∀ (s : SV) (H : AH), lookB H.bs 0 = some (.ints s.g) → lookB H.bs 1 = some (.ints s.h) → call (.func (.func 84) #[] #[]) [s.val] H = some (.int .i64 s.plain, H)) (s : SV) (hk : s.k ≤ 200) : ∃ H', evFn (tabT Try.prog) call 300 kpT 88 Try.f88 [s.val] s.hp = some (.int .i64 s.reds, H') := by
  have hp' := hp s
  simp only [SV.val] at hp'
  simp only [evFn, Try.f88, SV.val, SV.hp]
  simp [ec_skip, ec_label, ek_reg, ek_draw, ek_seq, ec_cond, ek_block, ec_loop, ec_exit, ec_ret, ec_scope, ek_nil, ek_op, opK_some, regK_some, seqK_normal, seqK_exit, seqK_ret, blockK_normal, blockK_exit, blockK_ret, evOp, vOp, hOpB, hOpU, hOp, hOpT, aAppendG_tab, aWanted, aYielded, opd, putT, closedV, aBin, intOp, sameK, mapO, joinR, hasAddr, boundOf, pushB, aAlloc, Value.cells, lookB, setB, Nat.beq_eq, tm_n_set, tm_get_set, tm_of_n, tm_of_get, tm_tr_set, tm_tr_of, cellV, putF, appR_eq, takeR_eq, dropR_eq, setR_eq, getR_eq, ↓C75, ↓C76, ↓C77, ↓C79, ↓C17, ↓C18, ↓C22, ↓C71, FA24_0, FA24_1, FA24_2, FA24_3, FA24_4, FA24_5, FA24_6, FA24_7, FA24_8, LD3, LD4, LD22, LD27, LDr, LD24, LEN22, IA22, tkc, cellAt, hp']
  generalize hr : evLoop _ _ _ _ = r
  obtain ⟨x, A', H', rfl, hl, hmk, hx⟩ := loop_go (Q := Q71 s) hr (I71 s) s.k (by omega) ⟨0, -1, by omega, rfl, rfl, rfl, rfl, rfl, rfl, rfl, rfl, rfl⟩ (by
      clear hr
      rintro m A H ⟨i, b, him, hres, hl, hmk, h3, h4, h13, h12, h11, hH⟩
      simp only [runC]
      cases m with
      | zero =>
        have hi : ¬ i < s.k := by omega
        simp only [redsG] at hres
        simp [ec_skip, ec_label, ek_reg, ek_draw, ek_seq, ec_cond, ek_block, ec_loop, ec_exit, ec_ret, ec_scope, ek_nil, ek_op, opK_some, regK_some, seqK_normal, seqK_exit, seqK_ret, blockK_normal, blockK_exit, blockK_ret, evOp, vOp, hOpB, hOpU, hOp, hOpT, aAppendG_tab, aWanted, aYielded, opd, putT, closedV, aBin, intOp, sameK, mapO, joinR, hasAddr, boundOf, pushB, aAlloc, Value.cells, lookB, setB, Nat.beq_eq, tm_n_set, tm_get_set, tm_of_n, tm_of_get, tm_tr_set, tm_tr_of, cellV, putF, appR_eq, takeR_eq, dropR_eq, setR_eq, getR_eq, ↓C75, ↓C76, ↓C77, ↓C79, ↓C17, ↓C18, ↓C22, ↓C71, FA24_0, FA24_1, FA24_2, FA24_3, FA24_4, FA24_5, FA24_6, FA24_7, FA24_8, LD3, LD4, LD22, LD27, LDr, LD24, LEN22, IA22, tkc, cellAt, hl, hmk, h3, h4, h13, h12, h11, hi]
        exact .inr ⟨by simp, by simp [tm_n_set, hl], rfl, .inl ⟨rfl, hres.symm⟩⟩
      | succ m =>
        have hi : i < s.k := by omega
        have hw : wrapI .i64 ((i : Int) + 1) = ((i + 1 : Nat) : Int) := by rw [wrapI_small (by omega) (by omega)]; rfl
        simp only [redsG] at hres
        by_cases c1 : btw (s.h i) 0 (wrapI .i64 (s.plain - 1)) = true
        · by_cases c2 : s.h i ≤ b
          · simp only [c1, c2, if_true] at hres
            simp [ec_skip, ec_label, ek_reg, ek_draw, ek_seq, ec_cond, ek_block, ec_loop, ec_exit, ec_ret, ec_scope, ek_nil, ek_op, opK_some, regK_some, seqK_normal, seqK_exit, seqK_ret, blockK_normal, blockK_exit, blockK_ret, evOp, vOp, hOpB, hOpU, hOp, hOpT, aAppendG_tab, aWanted, aYielded, opd, putT, closedV, aBin, intOp, sameK, mapO, joinR, hasAddr, boundOf, pushB, aAlloc, Value.cells, lookB, setB, Nat.beq_eq, tm_n_set, tm_get_set, tm_of_n, tm_of_get, tm_tr_set, tm_tr_of, cellV, putF, appR_eq, takeR_eq, dropR_eq, setR_eq, getR_eq, ↓C75, ↓C76, ↓C77, ↓C79, ↓C17, ↓C18, ↓C22, ↓C71, FA24_0, FA24_1, FA24_2, FA24_3, FA24_4, FA24_5, FA24_6, FA24_7, FA24_8, LD3, LD4, LD22, LD27, LDr, LD24, LEN22, IA22, tkc, cellAt, hl, hmk, h3, h4, h13, h12, h11, hH, hi, hb, c1, c2]
            exact .inr ⟨by simp, by simp [tm_n_set, hl], rfl, .inr ⟨rfl, by simp [tm_get_set, tm_n_set, hl, hres]⟩⟩
          · simp only [c1, c2, if_true, if_false] at hres
            simp [ec_skip, ec_label, ek_reg, ek_draw, ek_seq, ec_cond, ek_block, ec_loop, ec_exit, ec_ret, ec_scope, ek_nil, ek_op, opK_some, regK_some, seqK_normal, seqK_exit, seqK_ret, blockK_normal, blockK_exit, blockK_ret, evOp, vOp, hOpB, hOpU, hOp, hOpT, aAppendG_tab, aWanted, aYielded, opd, putT, closedV, aBin, intOp, sameK, mapO, joinR, hasAddr, boundOf, pushB, aAlloc, Value.cells, lookB, setB, Nat.beq_eq, tm_n_set, tm_get_set, tm_of_n, tm_of_get, tm_tr_set, tm_tr_of, cellV, putF, appR_eq, takeR_eq, dropR_eq, setR_eq, getR_eq, ↓C75, ↓C76, ↓C77, ↓C79, ↓C17, ↓C18, ↓C22, ↓C71, FA24_0, FA24_1, FA24_2, FA24_3, FA24_4, FA24_5, FA24_6, FA24_7, FA24_8, LD3, LD4, LD22, LD27, LDr, LD24, LEN22, IA22, tkc, cellAt, hl, hmk, h3, h4, h13, h12, h11, hH, hi, hb, c1, c2]
            refine .inl ⟨rfl, m, rfl, i + 1, s.h i, by omega, hres, ?_⟩
            simp [tm_get_set, tm_n_set, hl, h3, h4, h13, h12, h11, hH, hw]
        · simp only [c1, Bool.false_eq_true, if_false] at hres
          have c1' : btw (s.h i) 0 (wrapI .i64 (s.plain - 1)) = false := by simpa using c1
          simp [ec_skip, ec_label, ek_reg, ek_draw, ek_seq, ec_cond, ek_block, ec_loop, ec_exit, ec_ret, ec_scope, ek_nil, ek_op, opK_some, regK_some, seqK_normal, seqK_exit, seqK_ret, blockK_normal, blockK_exit, blockK_ret, evOp, vOp, hOpB, hOpU, hOp, hOpT, aAppendG_tab, aWanted, aYielded, opd, putT, closedV, aBin, intOp, sameK, mapO, joinR, hasAddr, boundOf, pushB, aAlloc, Value.cells, lookB, setB, Nat.beq_eq, tm_n_set, tm_get_set, tm_of_n, tm_of_get, tm_tr_set, tm_tr_of, cellV, putF, appR_eq, takeR_eq, dropR_eq, setR_eq, getR_eq, ↓C75, ↓C76, ↓C77, ↓C79, ↓C17, ↓C18, ↓C22, ↓C71, FA24_0, FA24_1, FA24_2, FA24_3, FA24_4, FA24_5, FA24_6, FA24_7, FA24_8, LD3, LD4, LD22, LD27, LDr, LD24, LEN22, IA22, tkc, cellAt, hl, hmk, h3, h4, h13, h12, h11, hH, hi, hb, c1']
          exact .inr ⟨by simp, by simp [tm_n_set, hl], rfl, .inr ⟨rfl, by simp [tm_get_set, tm_n_set, hl, hres]⟩⟩)
  rcases hx with ⟨rfl, hx⟩ | ⟨rfl, hx⟩
  · simp [ec_skip, ec_label, ek_reg, ek_draw, ek_seq, ec_cond, ek_block, ec_loop, ec_exit, ec_ret, ec_scope, ek_nil, ek_op, opK_some, regK_some, seqK_normal, seqK_exit, seqK_ret, blockK_normal, blockK_exit, blockK_ret, evOp, vOp, hOpB, hOpU, hOp, hOpT, aAppendG_tab, aWanted, aYielded, opd, putT, closedV, aBin, intOp, sameK, mapO, joinR, hasAddr, boundOf, pushB, aAlloc, Value.cells, lookB, setB, Nat.beq_eq, tm_n_set, tm_get_set, tm_of_n, tm_of_get, tm_tr_set, tm_tr_of, cellV, putF, appR_eq, takeR_eq, dropR_eq, setR_eq, getR_eq, ↓C75, ↓C76, ↓C77, ↓C79, ↓C17, ↓C18, ↓C22, ↓C71, FA24_0, FA24_1, FA24_2, FA24_3, FA24_4, FA24_5, FA24_6, FA24_7, FA24_8, LD3, LD4, LD22, LD27, LDr, LD24, LEN22, IA22, tkc, cellAt, finF, takeM, resV, hl, hmk, hx]
  · simp [ec_skip, ec_label, ek_reg, ek_draw, ek_seq, ec_cond, ek_block, ec_loop, ec_exit, ec_ret, ec_scope, ek_nil, ek_op, opK_some, regK_some, seqK_normal, seqK_exit, seqK_ret, blockK_normal, blockK_exit, blockK_ret, evOp, vOp, hOpB, hOpU, hOp, hOpT, aAppendG_tab, aWanted, aYielded, opd, putT, closedV, aBin, intOp, sameK, mapO, joinR, hasAddr, boundOf, pushB, aAlloc, Value.cells, lookB, setB, Nat.beq_eq, tm_n_set, tm_get_set, tm_of_n, tm_of_get, tm_tr_set, tm_tr_of, cellV, putF, appR_eq, takeR_eq, dropR_eq, setR_eq, getR_eq, ↓C75, ↓C76, ↓C77, ↓C79, ↓C17, ↓C18, ↓C22, ↓C71, FA24_0, FA24_1, FA24_2, FA24_3, FA24_4, FA24_5, FA24_6, FA24_7, FA24_8, LD3, LD4, LD22, LD27, LDr, LD24, LEN22, IA22, tkc, cellAt, finF, takeM, resV, hl, hmk, hx]

/-- Where the first number lies that is no number of ranks. -/
noncomputable def idxBad (g : Nat → Int) : Nat → Nat → Int
  | 0, _ => -1
  | m + 1, i => if btw (g i) 1 9 then idxBad g m (i + 1) else i

noncomputable def hp1 (g : Nat → Int) : AH := ⟨1, [(0, .ints g)]⟩
noncomputable def sl1 (n : Nat) : Value := .slice (some ⟨0, 0, some 1⟩) n 0

noncomputable def I109 (g : Nat → Int) (n : Nat) (m : Nat) (A : AF) (H : AH) : Prop := ∃ (i : Nat), i + m = n ∧ idxBad g m i = idxBad g n 0 ∧ A.tm.n = 19 ∧ A.marks = [] ∧ A.tm.get 8 = .int .i64 (i : Int) ∧ A.tm.get 7 = .int .i64 n ∧ A.tm.get 0 = .slice (some ⟨0, 0, some 1⟩) n 0 ∧ A.tm.get 1 = .func (.func 90) #[] #[] ∧ lookB H.bs 0 = some (.ints g)
noncomputable def Q109 (g : Nat → Int) (n : Nat) (x : AX) (A' : AF) (_ : AH) : Prop := A'.tm.n = 19 ∧ A'.marks = [] ∧ ((x = .exit 0 ∧ idxBad g n 0 = -1) ∨ (x = .ret ∧ A'.tm.get 4 = .int .i64 (idxBad g n 0)))

set_option maxRecDepth 10000 in
set_option maxHeartbeats 4000000 in
theorem indexFunc_ev (call : Value → List Value → AH → Option (Value × AH)) (hb : ∀ (n : Int) (H : AH), call (.func (.func 90) #[] #[]) [.int .i64 n] H = some (.bool (!btw n 1 9), H)) (g : Nat → Int) (n : Nat) (hk : n ≤ 200) : ∃ H', evFn (tabT Try.prog) call 300 kpT 98 Try.f98 [sl1 n, .func (.func 90) #[] #[]] (hp1 g) = some (.int .i64 (idxBad g n 0), H') := by
  simp only [evFn, Try.f98, hp1, sl1]
  obtain ⟨_, _, _, _, t3, n3, m3⟩ := T3x
  simp [ec_skip, ec_label, ek_reg, ek_draw, ek_seq, ec_cond, ek_block, ec_loop, ec_exit, ec_ret, ec_scope, ek_nil, ek_op, opK_some, regK_some, seqK_normal, seqK_exit, seqK_ret, blockK_normal, blockK_exit, blockK_ret, evOp, vOp, hOpB, hOpU, hOp, hOpT, aAppendG_tab, aWanted, aYielded, opd, putT, closedV, aBin, intOp, sameK, mapO, joinR, hasAddr, boundOf, pushB, aAlloc, Value.cells, lookB, setB, Nat.beq_eq, tm_n_set, tm_get_set, tm_of_n, tm_of_get, tm_tr_set, tm_tr_of, cellV, putF, appR_eq, takeR_eq, dropR_eq, setR_eq, getR_eq, ↓C75, ↓C76, ↓C77, ↓C79, ↓C17, ↓C18, ↓C22, ↓C71, FA24_0, FA24_1, FA24_2, FA24_3, FA24_4, FA24_5, FA24_6, FA24_7, FA24_8, LD3, LD4, LD22, LD27, LDr, LD24, LEN22, IA22, tkc, cellAt]
  generalize hr : evLoop _ _ _ _ = r
  obtain ⟨x, A', H', rfl, hl, hmk, hx⟩ := loop_go (Q := Q109 g n) hr (I109 g n) n (by omega) ⟨0, by omega, rfl, rfl, rfl, rfl, rfl, rfl, rfl, rfl⟩ (by
      clear hr
      rintro m A H ⟨i, him, hres, hl, hmk, h8, h7, h0, h1, hH⟩
      simp only [runC]
      cases m with
      | zero =>
        have hi : ¬ i < n := by omega
        rw [idxBad] at hres
        simp [ec_skip, ec_label, ek_reg, ek_draw, ek_seq, ec_cond, ek_block, ec_loop, ec_exit, ec_ret, ec_scope, ek_nil, ek_op, opK_some, regK_some, seqK_normal, seqK_exit, seqK_ret, blockK_normal, blockK_exit, blockK_ret, evOp, vOp, hOpB, hOpU, hOp, hOpT, aAppendG_tab, aWanted, aYielded, opd, putT, closedV, aBin, intOp, sameK, mapO, joinR, hasAddr, boundOf, pushB, aAlloc, Value.cells, lookB, setB, Nat.beq_eq, tm_n_set, tm_get_set, tm_of_n, tm_of_get, tm_tr_set, tm_tr_of, cellV, putF, appR_eq, takeR_eq, dropR_eq, setR_eq, getR_eq, ↓C75, ↓C76, ↓C77, ↓C79, ↓C17, ↓C18, ↓C22, ↓C71, FA24_0, FA24_1, FA24_2, FA24_3, FA24_4, FA24_5, FA24_6, FA24_7, FA24_8, LD3, LD4, LD22, LD27, LDr, LD24, LEN22, IA22, tkc, cellAt, hl, hmk, h8, h7, h0, h1, hi]
        exact .inr ⟨by simp, by simp [tm_n_set, hl], rfl, .inl ⟨rfl, hres.symm⟩⟩
      | succ m =>
        have hi : i < n := by omega
        have hw : wrapI .i64 ((i : Int) + 1) = ((i + 1 : Nat) : Int) := by rw [wrapI_small (by omega) (by omega)]; rfl
        rw [idxBad] at hres
        cases c1 : btw (g i) 1 9 with
        | true =>
          simp only [c1, if_true] at hres
          simp [ec_skip, ec_label, ek_reg, ek_draw, ek_seq, ec_cond, ek_block, ec_loop, ec_exit, ec_ret, ec_scope, ek_nil, ek_op, opK_some, regK_some, seqK_normal, seqK_exit, seqK_ret, blockK_normal, blockK_exit, blockK_ret, evOp, vOp, hOpB, hOpU, hOp, hOpT, aAppendG_tab, aWanted, aYielded, opd, putT, closedV, aBin, intOp, sameK, mapO, joinR, hasAddr, boundOf, pushB, aAlloc, Value.cells, lookB, setB, Nat.beq_eq, tm_n_set, tm_get_set, tm_of_n, tm_of_get, tm_tr_set, tm_tr_of, cellV, putF, appR_eq, takeR_eq, dropR_eq, setR_eq, getR_eq, ↓C75, ↓C76, ↓C77, ↓C79, ↓C17, ↓C18, ↓C22, ↓C71, FA24_0, FA24_1, FA24_2, FA24_3, FA24_4, FA24_5, FA24_6, FA24_7, FA24_8, LD3, LD4, LD22, LD27, LDr, LD24, LEN22, IA22, tkc, cellAt, hl, hmk, h8, h7, h0, h1, hH, hi, hb, c1, t3, n3, m3]
          refine .inl ⟨rfl, m, rfl, i + 1, by omega, hres, ?_⟩
          simp [tm_get_set, tm_n_set, hl, h8, h7, h0, h1, hH, hw]
        | false =>
          simp only [c1, Bool.false_eq_true, if_false] at hres
          simp [ec_skip, ec_label, ek_reg, ek_draw, ek_seq, ec_cond, ek_block, ec_loop, ec_exit, ec_ret, ec_scope, ek_nil, ek_op, opK_some, regK_some, seqK_normal, seqK_exit, seqK_ret, blockK_normal, blockK_exit, blockK_ret, evOp, vOp, hOpB, hOpU, hOp, hOpT, aAppendG_tab, aWanted, aYielded, opd, putT, closedV, aBin, intOp, sameK, mapO, joinR, hasAddr, boundOf, pushB, aAlloc, Value.cells, lookB, setB, Nat.beq_eq, tm_n_set, tm_get_set, tm_of_n, tm_of_get, tm_tr_set, tm_tr_of, cellV, putF, appR_eq, takeR_eq, dropR_eq, setR_eq, getR_eq, ↓C75, ↓C76, ↓C77, ↓C79, ↓C17, ↓C18, ↓C22, ↓C71, FA24_0, FA24_1, FA24_2, FA24_3, FA24_4, FA24_5, FA24_6, FA24_7, FA24_8, LD3, LD4, LD22, LD27, LDr, LD24, LEN22, IA22, tkc, cellAt, hl, hmk, h8, h7, h0, h1, hH, hi, hb, c1, t3, n3, m3]
          exact .inr ⟨by simp, by simp [tm_n_set, hl], rfl, .inr ⟨rfl, by simp [tm_get_set, tm_n_set, hl, hres]⟩⟩)
  rcases hx with ⟨rfl, hx⟩ | ⟨rfl, hx⟩
  · simp [ec_skip, ec_label, ek_reg, ek_draw, ek_seq, ec_cond, ek_block, ec_loop, ec_exit, ec_ret, ec_scope, ek_nil, ek_op, opK_some, regK_some, seqK_normal, seqK_exit, seqK_ret, blockK_normal, blockK_exit, blockK_ret, evOp, vOp, hOpB, hOpU, hOp, hOpT, aAppendG_tab, aWanted, aYielded, opd, putT, closedV, aBin, intOp, sameK, mapO, joinR, hasAddr, boundOf, pushB, aAlloc, Value.cells, lookB, setB, Nat.beq_eq, tm_n_set, tm_get_set, tm_of_n, tm_of_get, tm_tr_set, tm_tr_of, cellV, putF, appR_eq, takeR_eq, dropR_eq, setR_eq, getR_eq, ↓C75, ↓C76, ↓C77, ↓C79, ↓C17, ↓C18, ↓C22, ↓C71, FA24_0, FA24_1, FA24_2, FA24_3, FA24_4, FA24_5, FA24_6, FA24_7, FA24_8, LD3, LD4, LD22, LD27, LDr, LD24, LEN22, IA22, tkc, cellAt, finF, takeM, resV, hl, hmk, hx]
  · simp [ec_skip, ec_label, ek_reg, ek_draw, ek_seq, ec_cond, ek_block, ec_loop, ec_exit, ec_ret, ec_scope, ek_nil, ek_op, opK_some, regK_some, seqK_normal, seqK_exit, seqK_ret, blockK_normal, blockK_exit, blockK_ret, evOp, vOp, hOpB, hOpU, hOp, hOpT, aAppendG_tab, aWanted, aYielded, opd, putT, closedV, aBin, intOp, sameK, mapO, joinR, hasAddr, boundOf, pushB, aAlloc, Value.cells, lookB, setB, Nat.beq_eq, tm_n_set, tm_get_set, tm_of_n, tm_of_get, tm_tr_set, tm_tr_of, cellV, putF, appR_eq, takeR_eq, dropR_eq, setR_eq, getR_eq, ↓C75, ↓C76, ↓C77, ↓C79, ↓C17, ↓C18, ↓C22, ↓C71, FA24_0, FA24_1, FA24_2, FA24_3, FA24_4, FA24_5, FA24_6, FA24_7, FA24_8, LD3, LD4, LD22, LD27, LDr, LD24, LEN22, IA22, tkc, cellAt, finF, takeM, resV, hl, hmk, hx]

noncomputable def anyBad (g : Nat → Int) (n : Nat) : Bool := decide (0 ≤ idxBad g n 0)

set_option maxRecDepth 10000 in
set_option maxHeartbeats 4000000 in
theorem containsFunc_ev (call : Value → List Value → AH → Option (Value × AH)) (hb : ∀ (g : Nat → Int) (n : Nat) (H : AH), lookB H.bs 0 = some (.ints g) → call (.func (.func 98) #[] #[]) [sl1 n, .func (.func 90) #[] #[]] H = some (.int .i64 (idxBad g n 0), H)) (g : Nat → Int) (n : Nat) : ∃ H', evFn (tabT Try.prog) call 300 kpT 89 Try.f89 [sl1 n, .func (.func 90) #[] #[]] (hp1 g) = some (.bool (anyBad g n), H') := by
  have hb' := hb g n
  simp only [sl1] at hb'
  simp only [evFn, Try.f89, hp1, sl1, anyBad]
  simp [ec_skip, ec_label, ek_reg, ek_draw, ek_seq, ec_cond, ek_block, ec_loop, ec_exit, ec_ret, ec_scope, ek_nil, ek_op, opK_some, regK_some, seqK_normal, seqK_exit, seqK_ret, blockK_normal, blockK_exit, blockK_ret, evOp, vOp, hOpB, hOpU, hOp, hOpT, aAppendG_tab, aWanted, aYielded, opd, putT, closedV, aBin, intOp, sameK, mapO, joinR, hasAddr, boundOf, pushB, aAlloc, Value.cells, lookB, setB, Nat.beq_eq, tm_n_set, tm_get_set, tm_of_n, tm_of_get, tm_tr_set, tm_tr_of, cellV, putF, appR_eq, takeR_eq, dropR_eq, setR_eq, getR_eq, ↓C75, ↓C76, ↓C77, ↓C79, ↓C17, ↓C18, ↓C22, ↓C71, FA24_0, FA24_1, FA24_2, FA24_3, FA24_4, FA24_5, FA24_6, FA24_7, FA24_8, LD3, LD4, LD22, LD27, LDr, LD24, LEN22, IA22, tkc, cellAt, finF, takeM, resV, hb']

noncomputable def I79 (s : SV) (m : Nat) (A : AF) (H : AH) : Prop := ∃ (i : Nat) (acc : Int), i + m = s.n ∧ sumG s.g m i acc = s.plain ∧ A.tm.n = 25 ∧ A.marks = [] ∧ A.tm.get 3 = .int .i64 acc ∧ A.tm.get 4 = .int .i64 (i : Int) ∧ A.tm.get 1 = .pointer (some ⟨2, 0, none⟩) ∧ cellAt H.bs 2 1 = some (.slice (some ⟨0, 0, some 1⟩) s.n 0) ∧ lookB H.bs 0 = some (.ints s.g)
noncomputable def Q79 (s : SV) (x : AX) (A' : AF) (_ : AH) : Prop := x = .exit 0 ∧ A'.tm.n = 25 ∧ A'.marks = [] ∧ A'.tm.get 3 = .int .i64 s.plain

set_option maxRecDepth 10000 in
set_option maxHeartbeats 4000000 in
theorem plain_ev (call : Value → List Value → AH → Option (Value × AH)) (s : SV) (hn : s.n ≤ 200) : ∃ H', evFn (tabT Try.prog) call 300 kpT 55 Try.f55 [s.val] s.hp = some (.int .i64 s.plain, H') := by
  simp only [evFn, Try.f55, SV.val, SV.hp]
  simp [ec_skip, ec_label, ek_reg, ek_draw, ek_seq, ec_cond, ek_block, ec_loop, ec_exit, ec_ret, ec_scope, ek_nil, ek_op, opK_some, regK_some, seqK_normal, seqK_exit, seqK_ret, blockK_normal, blockK_exit, blockK_ret, evOp, vOp, hOpB, hOpU, hOp, hOpT, aAppendG_tab, aWanted, aYielded, opd, putT, closedV, aBin, intOp, sameK, mapO, joinR, hasAddr, boundOf, pushB, aAlloc, Value.cells, lookB, setB, Nat.beq_eq, tm_n_set, tm_get_set, tm_of_n, tm_of_get, tm_tr_set, tm_tr_of, cellV, putF, appR_eq, takeR_eq, dropR_eq, setR_eq, getR_eq, ↓C75, ↓C76, ↓C77, ↓C79, ↓C17, ↓C18, ↓C22, ↓C71, FA24_0, FA24_1, FA24_2, FA24_3, FA24_4, FA24_5, FA24_6, FA24_7, FA24_8, LD3, LD4, LD22, LD27, LDr, LD24, LEN22, IA22, tkc, cellAt]
  generalize hr : evLoop _ _ _ _ = r
  obtain ⟨x, A', H', rfl, rfl, hl, hmk, h3⟩ := loop_go (Q := Q79 s) hr (I79 s)
    s.n (by omega) ⟨0, _, by omega, rfl, rfl, rfl, rfl, rfl, rfl, rfl, rfl⟩ (by
      clear hr
      rintro m A H ⟨i, acc, him, hsum, hl, hmk, h3, h4, h1, h2, hH⟩
      simp only [runC]
      cases m with
      | zero =>
        have hi : ¬ i < s.n := by omega
        simp only [sumG] at hsum
        simp [ec_skip, ec_label, ek_reg, ek_draw, ek_seq, ec_cond, ek_block, ec_loop, ec_exit, ec_ret, ec_scope, ek_nil, ek_op, opK_some, regK_some, seqK_normal, seqK_exit, seqK_ret, blockK_normal, blockK_exit, blockK_ret, evOp, vOp, hOpB, hOpU, hOp, hOpT, aAppendG_tab, aWanted, aYielded, opd, putT, closedV, aBin, intOp, sameK, mapO, joinR, hasAddr, boundOf, pushB, aAlloc, Value.cells, lookB, setB, Nat.beq_eq, tm_n_set, tm_get_set, tm_of_n, tm_of_get, tm_tr_set, tm_tr_of, cellV, putF, appR_eq, takeR_eq, dropR_eq, setR_eq, getR_eq, ↓C75, ↓C76, ↓C77, ↓C79, ↓C17, ↓C18, ↓C22, ↓C71, FA24_0, FA24_1, FA24_2, FA24_3, FA24_4, FA24_5, FA24_6, FA24_7, FA24_8, LD3, LD4, LD22, LD27, LDr, LD24, LEN22, IA22, tkc, hl, hmk, h3, h4, h1, h2, hi]
        exact .inr ⟨by simp, rfl, by simp [tm_n_set, hl], rfl, by simp [tm_get_set, tm_n_set, hl, h3, hsum]⟩
      | succ m =>
        have hi : i < s.n := by omega
        have hw : wrapI .i64 ((i : Int) + 1) = ((i + 1 : Nat) : Int) := by rw [wrapI_small (by omega) (by omega)]; rfl
        simp [ec_skip, ec_label, ek_reg, ek_draw, ek_seq, ec_cond, ek_block, ec_loop, ec_exit, ec_ret, ec_scope, ek_nil, ek_op, opK_some, regK_some, seqK_normal, seqK_exit, seqK_ret, blockK_normal, blockK_exit, blockK_ret, evOp, vOp, hOpB, hOpU, hOp, hOpT, aAppendG_tab, aWanted, aYielded, opd, putT, closedV, aBin, intOp, sameK, mapO, joinR, hasAddr, boundOf, pushB, aAlloc, Value.cells, lookB, setB, Nat.beq_eq, tm_n_set, tm_get_set, tm_of_n, tm_of_get, tm_tr_set, tm_tr_of, cellV, putF, appR_eq, takeR_eq, dropR_eq, setR_eq, getR_eq, ↓C75, ↓C76, ↓C77, ↓C79, ↓C17, ↓C18, ↓C22, ↓C71, FA24_0, FA24_1, FA24_2, FA24_3, FA24_4, FA24_5, FA24_6, FA24_7, FA24_8, LD3, LD4, LD22, LD27, LDr, LD24, LEN22, IA22, tkc, hl, hmk, h3, h4, h1, h2, hH, hi]
        refine .inl ⟨rfl, m, rfl, i + 1, wrapI .i64 (acc + s.g i), by omega, hsum, ?_⟩
        simp [tm_get_set, tm_n_set, hl, h3, h4, h1, h2, hH, hw])
  simp [ec_skip, ec_label, ek_reg, ek_draw, ek_seq, ec_cond, ek_block, ec_loop, ec_exit, ec_ret, ec_scope, ek_nil, ek_op, opK_some, regK_some, seqK_normal, seqK_exit, seqK_ret, blockK_normal, blockK_exit, blockK_ret, evOp, vOp, hOpB, hOpU, hOp, hOpT, aAppendG_tab, aWanted, aYielded, opd, putT, closedV, aBin, intOp, sameK, mapO, joinR, hasAddr, boundOf, pushB, aAlloc, Value.cells, lookB, setB, Nat.beq_eq, tm_n_set, tm_get_set, tm_of_n, tm_of_get, tm_tr_set, tm_tr_of, cellV, putF, appR_eq, takeR_eq, dropR_eq, setR_eq, getR_eq, ↓C75, ↓C76, ↓C77, ↓C79, ↓C17, ↓C18, ↓C22, ↓C71, FA24_0, FA24_1, FA24_2, FA24_3, FA24_4, FA24_5, FA24_6, FA24_7, FA24_8, LD3, LD4, LD22, LD27, LDr, LD24, LEN22, IA22, tkc, finF, takeM, resV, hl, hmk, h3]



end

section
set_option linter.unusedSimpArgs false
set_option linter.unusedVariables false


abbrev Hnd := Value → List Value → AH → Option (Value × AH)
/-- A run of calls that takes what the handler knows. -/
noncomputable def runH (hd : Hnd) : Hnd := evCall (tabT Try.prog) (tabF Try.prog) 300 kpT hd 9

theorem runH_ok {hd : Hnd} (h : CallOK Try.prog hd) : CallOK Try.prog (runH hd) := evCall_sound (tabT_ok _) (tabF_ok _) mixed 300 kpT h 9
/-- The calls inside of a function that is run. -/
noncomputable def inH (hd : Hnd) : Hnd := evCall (tabT Try.prog) (tabF Try.prog) 300 kpT hd 8
theorem evCall_fn {L n : Nat} {hd : Hnd} {f : FuncId} {fn : Func} {args : List Value} {H : AH} (hF : tabF Try.prog f = some fn) (hh : hd (.func (.func f) #[] #[]) args H = none) :
    evCall (tabT Try.prog) (tabF Try.prog) L kpT hd (n + 1) (.func (.func f) #[] #[]) args H = evFn (tabT Try.prog) (evCall (tabT Try.prog) (tabF Try.prog) L kpT hd n) L kpT f fn args H := by
  conv => lhs; unfold evCall
  simp only [hh, hF]
  rw [twT_no rfl]
  simp
theorem evCall_hd {L n : Nat} {hd : Hnd} {fv : Value} {args : List Value} {H : AH} {r : Value × AH} (h : hd fv args H = some r) : evCall (tabT Try.prog) (tabF Try.prog) L kpT hd (n + 1) fv args H = some r := by
  unfold evCall
  simp only [h]
theorem runH_fn {hd : Hnd} {f : FuncId} {fn : Func} {args : List Value} {H H' : AH} {v : Value} (hF : tabF Try.prog f = some fn) (hh : hd (.func (.func f) #[] #[]) args H = none)
    (h : evFn (tabT Try.prog) (inH hd) 300 kpT f fn args H = some (v, H')) : runH hd (.func (.func f) #[] #[]) args H = some (v, H') := (evCall_fn (n := 8) hF hh).trans h
theorem inH_hd {hd : Hnd} {fv : Value} {args : List Value} {H : AH} {r : Value × AH} (h : hd fv args H = some r) : inH hd fv args H = some r := evCall_hd (n := 7) h

theorem canH_set {f : FuncId} {a : SV → Option Value} {s : SV} {H : AH} (h0 : lookB H.bs 0 = some (.ints s.g)) (h1 : lookB H.bs 1 = some (.ints s.h)) :
    canH f (ans1 a) (.func (.func f) #[] #[]) [s.val] H = (a s).map (·, H) := by
  simp [canH, canon, canonL, canonV, idOf, idxOf, SV.val, canonB, h0, h1, ans1, seeSet]
  cases a s <;> rfl

theorem orH_l {a b : Hnd} {fv : Value} {args : List Value} {H : AH} {r : Value × AH} (h : a fv args H = some r) : orH a b fv args H = some r := by simp [orH, h]
theorem orH_r {a b : Hnd} {fv : Value} {args : List Value} {H : AH} {r : Option (Value × AH)} (ha : a fv args H = none) (h : b fv args H = r) : orH a b fv args H = r := by simp [orH, ha, h]
theorem canH_other {f g : FuncId} {ans : List Value → AH → Option Value} {args : List Value} {H : AH} (h : Nat.beq g f = false) : canH f ans (.func (.func g) #[] #[]) args H = none := by
  simp [canH, h]

noncomputable def ansB : List Value → AH → Option Value
  | [.int .i64 n, .int .i64 l, .int .i64 m], _ => some (.bool (btw n l m))
  | _, _ => none

noncomputable def aPlain (s : SV) : Option Value := some (.int .i64 s.plain)
noncomputable def aFull (s : SV) : Option Value := some (.int .i64 s.full)
noncomputable def aReds (s : SV) : Option Value := some (.int .i64 s.reds)

theorem ok72 : AnsOK (runH noH) 52 ansB := by
  intro cargs Hc v h
  unfold ansB at h
  split at h
  · rename_i n l m
    cases h
    refine ⟨rfl, fun _ => ?_⟩
    obtain ⟨H', h⟩ := between_ev (inH noH) n l m Hc
    exact ⟨H', runH_fn F72 rfl h⟩
  · cases h

theorem ok78 : AnsOK (runH noH) 76 ansB := by
  intro cargs Hc v h
  unfold ansB at h
  split at h
  · rename_i n l m
    cases h
    refine ⟨rfl, fun _ => ?_⟩
    obtain ⟨H', h⟩ := rbetween_ev (inH noH) n l m Hc
    exact ⟨H', runH_fn F78 rfl h⟩
  · cases h

theorem ok75 : AnsOK (runH noH) 84 (ans1 aPlain) := ans1_ok fun s v h => by
  cases h
  refine ⟨rfl, fun hn _ => ?_⟩
  obtain ⟨H', h⟩ := plainKinds_ev (inH noH) s hn
  exact ⟨H', runH_fn F75 rfl h⟩

theorem ok79 : AnsOK (runH noH) 55 (ans1 aPlain) := ans1_ok fun s v h => by
  cases h
  refine ⟨rfl, fun hn _ => ?_⟩
  obtain ⟨H', h⟩ := plain_ev (inH noH) s hn
  exact ⟨H', runH_fn F79 rfl h⟩

theorem ok77 : AnsOK (runH noH) 74 (ans1 aFull) := ans1_ok fun s v h => by
  cases h
  refine ⟨rfl, fun _ _ => ?_⟩
  obtain ⟨H', h⟩ := full_ev (inH noH) s
  exact ⟨H', runH_fn F77 rfl h⟩

noncomputable def L0 : Hnd := orH (canH 52 ansB) (orH (canH 76 ansB) (orH (canH 84 (ans1 aPlain)) (orH (canH 55 (ans1 aPlain)) (canH 74 (ans1 aFull)))))

theorem L0_ok : CallOK Try.prog L0 :=
  have h := runH_ok noH_ok
  orH_ok (canH_ok h ok72) (orH_ok (canH_ok h ok78) (orH_ok (canH_ok h ok75) (orH_ok (canH_ok h ok79) (canH_ok h ok77))))

theorem L0_72 (n l m : Int) (H : AH) : L0 (.func (.func 52) #[] #[]) [.int .i64 n, .int .i64 l, .int .i64 m] H = some (.bool (btw n l m), H) := rfl
theorem L0_78 (n l m : Int) (H : AH) : L0 (.func (.func 76) #[] #[]) [.int .i64 n, .int .i64 l, .int .i64 m] H = some (.bool (btw n l m), H) := rfl
theorem L0_75 (s : SV) (H : AH) (h0 : lookB H.bs 0 = some (.ints s.g)) (h1 : lookB H.bs 1 = some (.ints s.h)) : L0 (.func (.func 84) #[] #[]) [s.val] H = some (.int .i64 s.plain, H) :=
  orH_r (canH_other rfl) (orH_r (canH_other rfl) (orH_l (canH_set h0 h1)))
theorem L0_79 (s : SV) (H : AH) (h0 : lookB H.bs 0 = some (.ints s.g)) (h1 : lookB H.bs 1 = some (.ints s.h)) : L0 (.func (.func 55) #[] #[]) [s.val] H = some (.int .i64 s.plain, H) :=
  orH_r (canH_other rfl) (orH_r (canH_other rfl) (orH_r (canH_other rfl) (orH_l (canH_set h0 h1))))

/-! ### The second row -/
noncomputable def ansBad : List Value → AH → Option Value
  | [.int .i64 n], _ => some (.bool (!btw n 1 9))
  | _, _ => none

noncomputable def SV.size (s : SV) : Int := wrapI .i64 (wrapI .i64 (s.plain * s.c) + s.f)
noncomputable def aSize (s : SV) : Option Value := some (.int .i64 s.size)

theorem ok74 : AnsOK (runH L0) 90 ansBad := by
  intro cargs Hc v h
  unfold ansBad at h
  split at h
  · cases h
    refine ⟨rfl, fun _ => ?_⟩
    obtain ⟨H', h⟩ := badSuit_ev (inH L0) (fun n l m H => inH_hd (L0_72 n l m H)) ‹_› Hc
    exact ⟨H', runH_fn F74 rfl h⟩
  · cases h

theorem ok71 : AnsOK (runH L0) 88 (ans1 aReds) := ans1_ok fun s v h => by
  cases h
  refine ⟨rfl, fun _ hk => ?_⟩
  obtain ⟨H', h⟩ := checkReds_ev (inH L0) (fun n l m H => inH_hd (L0_72 n l m H)) (fun s H h0 h1 => inH_hd (L0_75 s H h0 h1)) s hk
  exact ⟨H', runH_fn F71 rfl h⟩

theorem size_ev (s : SV) : (evFn (tabT Try.prog) (inH L0) 300 kpT 80 Try.f80 [s.val] s.hp).map (·.1) = some (.int .i64 s.size) := by kernel_rfl

theorem ok76 : AnsOK (runH L0) 80 (ans1 aSize) := ans1_ok fun s v h => by
  cases h
  refine ⟨rfl, fun _ _ => ?_⟩
  have h := size_ev s
  simp only [Option.map_eq_some_iff] at h
  obtain ⟨⟨v, H'⟩, h, e⟩ := h
  cases e
  exact ⟨H', runH_fn F76 rfl h⟩

noncomputable def L1 : Hnd := orH L0 (orH (canH 90 ansBad) (orH (canH 88 (ans1 aReds)) (canH 80 (ans1 aSize))))
theorem L1_ok : CallOK Try.prog L1 :=
  have h := runH_ok L0_ok
  orH_ok L0_ok (orH_ok (canH_ok h ok74) (orH_ok (canH_ok h ok71) (canH_ok h ok76)))

/-! ### The third and the fourth row -/
noncomputable def ansIdx : List Value → AH → Option Value
  | [.slice (some ⟨0, 0, some 1⟩) n 0, .func (.func 90) ⟨[]⟩ ⟨[]⟩], ⟨1, [(0, .ints g)]⟩ => some (.int .i64 (idxBad g n 0))
  | _, _ => none
noncomputable def ansAny : List Value → AH → Option Value
  | [.slice (some ⟨0, 0, some 1⟩) n 0, .func (.func 90) ⟨[]⟩ ⟨[]⟩], ⟨1, [(0, .ints g)]⟩ => some (.bool (anyBad g n))
  | _, _ => none

theorem ok109 : AnsOK (runH L1) 98 ansIdx := by
  intro cargs Hc v h
  unfold ansIdx at h
  split at h
  · rename_i n g
    cases h
    refine ⟨rfl, fun hr => ?_⟩
    obtain ⟨H', h⟩ := indexFunc_ev (inH L1) (fun n H => inH_hd rfl) g n (hr.len (j := 0) (i := 0) (g := g) rfl rfl)
    exact ⟨H', runH_fn F109 rfl h⟩
  · cases h

noncomputable def L2 : Hnd := orH L1 (canH 98 ansIdx)
theorem L2_ok : CallOK Try.prog L2 := orH_ok L1_ok (canH_ok (runH_ok L1_ok) ok109)

theorem L2_109 (g : Nat → Int) (n : Nat) (H : AH) (h : lookB H.bs 0 = some (.ints g)) : L2 (.func (.func 98) #[] #[]) [sl1 n, .func (.func 90) #[] #[]] H = some (.int .i64 (idxBad g n 0), H) :=
  orH_r (by rfl) (by simp [canH, canon, canonL, canonV, idOf, idxOf, sl1, canonB, h, ansIdx])

theorem ok73 : AnsOK (runH L2) 89 ansAny := by
  intro cargs Hc v h
  unfold ansAny at h
  split at h
  · rename_i n g
    cases h
    refine ⟨rfl, fun _ => ?_⟩
    obtain ⟨H', h⟩ := containsFunc_ev (inH L2) (fun g n H h => inH_hd (L2_109 g n H h)) g n
    exact ⟨H', runH_fn F73 rfl h⟩
  · cases h

noncomputable def L3 : Hnd := orH L2 (canH 89 ansAny)
theorem L3_ok : CallOK Try.prog L3 := orH_ok L2_ok (canH_ok (runH_ok L2_ok) ok73)



end

section
set_option linter.unusedSimpArgs false
set_option linter.unusedVariables false


/-- The list of Check's rules, by whether each holds and by its error. -/
noncomputable def arrL (B : Nat → Bool) (E : Nat → Int) : Value := .agg ⟨[.bool (B 0), .int .i64 (E 0), .bool (B 1), .int .i64 (E 1), .bool (B 2), .int .i64 (E 2), .bool (B 3), .int .i64 (E 3), .bool (B 4), .int .i64 (E 4), .bool (B 5), .int .i64 (E 5), .bool (B 6), .int .i64 (E 6), .bool (B 7), .int .i64 (E 7), .bool (B 8), .int .i64 (E 8), .bool (B 9), .int .i64 (E 9), .bool (B 10), .int .i64 (E 10), .bool (B 11), .int .i64 (E 11)]⟩

theorem IX77_0 (B : Nat → Bool) (E : Nat → Int) : aIndex (tabT Try.prog) 115 (arrL B E) (.int .i64 ((0 : Nat) : Int)) = some (.agg #[.bool (B 0), .int .i64 (E 0)]) := by kernel_rfl
theorem IX77_1 (B : Nat → Bool) (E : Nat → Int) : aIndex (tabT Try.prog) 115 (arrL B E) (.int .i64 ((1 : Nat) : Int)) = some (.agg #[.bool (B 1), .int .i64 (E 1)]) := by kernel_rfl
theorem IX77_2 (B : Nat → Bool) (E : Nat → Int) : aIndex (tabT Try.prog) 115 (arrL B E) (.int .i64 ((2 : Nat) : Int)) = some (.agg #[.bool (B 2), .int .i64 (E 2)]) := by kernel_rfl
theorem IX77_3 (B : Nat → Bool) (E : Nat → Int) : aIndex (tabT Try.prog) 115 (arrL B E) (.int .i64 ((3 : Nat) : Int)) = some (.agg #[.bool (B 3), .int .i64 (E 3)]) := by kernel_rfl
theorem IX77_4 (B : Nat → Bool) (E : Nat → Int) : aIndex (tabT Try.prog) 115 (arrL B E) (.int .i64 ((4 : Nat) : Int)) = some (.agg #[.bool (B 4), .int .i64 (E 4)]) := by kernel_rfl
theorem IX77_5 (B : Nat → Bool) (E : Nat → Int) : aIndex (tabT Try.prog) 115 (arrL B E) (.int .i64 ((5 : Nat) : Int)) = some (.agg #[.bool (B 5), .int .i64 (E 5)]) := by kernel_rfl
theorem IX77_6 (B : Nat → Bool) (E : Nat → Int) : aIndex (tabT Try.prog) 115 (arrL B E) (.int .i64 ((6 : Nat) : Int)) = some (.agg #[.bool (B 6), .int .i64 (E 6)]) := by kernel_rfl
theorem IX77_7 (B : Nat → Bool) (E : Nat → Int) : aIndex (tabT Try.prog) 115 (arrL B E) (.int .i64 ((7 : Nat) : Int)) = some (.agg #[.bool (B 7), .int .i64 (E 7)]) := by kernel_rfl
theorem IX77_8 (B : Nat → Bool) (E : Nat → Int) : aIndex (tabT Try.prog) 115 (arrL B E) (.int .i64 ((8 : Nat) : Int)) = some (.agg #[.bool (B 8), .int .i64 (E 8)]) := by kernel_rfl
theorem IX77_9 (B : Nat → Bool) (E : Nat → Int) : aIndex (tabT Try.prog) 115 (arrL B E) (.int .i64 ((9 : Nat) : Int)) = some (.agg #[.bool (B 9), .int .i64 (E 9)]) := by kernel_rfl
theorem IX77_10 (B : Nat → Bool) (E : Nat → Int) : aIndex (tabT Try.prog) 115 (arrL B E) (.int .i64 ((10 : Nat) : Int)) = some (.agg #[.bool (B 10), .int .i64 (E 10)]) := by kernel_rfl
theorem IX77_11 (B : Nat → Bool) (E : Nat → Int) : aIndex (tabT Try.prog) 115 (arrL B E) (.int .i64 ((11 : Nat) : Int)) = some (.agg #[.bool (B 11), .int .i64 (E 11)]) := by kernel_rfl

theorem IX77 (B : Nat → Bool) (E : Nat → Int) (i : Nat) (h : i < 12) : aIndex (tabT Try.prog) 115 (arrL B E) (.int .i64 (i : Int)) = some (.agg #[.bool (B i), .int .i64 (E i)]) := by
  obtain rfl | rfl | rfl | rfl | rfl | rfl | rfl | rfl | rfl | rfl | rfl | rfl : i = 0 ∨ i = 1 ∨ i = 2 ∨ i = 3 ∨ i = 4 ∨ i = 5 ∨ i = 6 ∨ i = 7 ∨ i = 8 ∨ i = 9 ∨ i = 10 ∨ i = 11 := by omega
  · exact IX77_0 B E
  · exact IX77_1 B E
  · exact IX77_2 B E
  · exact IX77_3 B E
  · exact IX77_4 B E
  · exact IX77_5 B E
  · exact IX77_6 B E
  · exact IX77_7 B E
  · exact IX77_8 B E
  · exact IX77_9 B E
  · exact IX77_10 B E
  · exact IX77_11 B E

theorem FA74_0 (i off : Nat) : aFieldAddr (tabT Try.prog) 113 (.pointer (some ⟨i, off, none⟩)) 0 = some (.pointer (some ⟨i, off + 0, none⟩)) := by kernel_rfl
theorem FA74_1 (i off : Nat) : aFieldAddr (tabT Try.prog) 113 (.pointer (some ⟨i, off, none⟩)) 1 = some (.pointer (some ⟨i, off + 1, none⟩)) := by kernel_rfl
theorem ST74 (H : AH) (i off : Nat) (v : Value) : aStore (tabT Try.prog) H 113 (.pointer (some ⟨i, off, none⟩)) v = match lookB H.bs i with
    | some (.cells false cs) => if Nat.beq v.cells.toList.length 2 && Nat.ble (off + v.cells.toList.length) cs.length && v.cells.toList.all cellV then some { H with bs := setB H.bs i (.cells false (putF cs off v.cells.toList)) } else none
    | _ => none := sti (by kernel_rfl) H i off v
theorem AL74 {call : Value → List Value → AH → Option (Value × AH)} {g : Operand → Option Value} {H : AH} {d : Option Tmp} {t : TypeId} {p : String} {a : Array Edge} {gd : Option (Nat × Bool)} : evOp (tabT Try.prog) call ⟨d, .alloc 113, t, p, a, gd⟩ g H = some (.pointer (some ⟨H.next, 0, none⟩), ⟨H.next + 1, (H.next, .cells false [.bool false, .int .i64 0]) :: H.bs⟩) :=
  evOp_evO.trans (eo_alloc (cs := [.bool false, .int .i64 0]) (by kernel_rfl))

/-- The first rule's error that does not hold, from the i-th rule on. -/
noncomputable def firstE (B : Nat → Bool) (E : Nat → Int) : Nat → Nat → Int
  | 0, _ => 0
  | m + 1, i => if B i then firstE B E m (i + 1) else E i

noncomputable def I17 (B : Nat → Bool) (E : Nat → Int) (m : Nat) (A : AF) (_ : AH) : Prop := ∃ (i : Nat), i + m = 12 ∧ firstE B E m i = firstE B E 12 0 ∧ A.tm.n = 79 ∧ A.marks = [] ∧ A.tm.get 69 = arrL B E ∧ A.tm.get 70 = .int .i64 (i : Int)
noncomputable def Q17 (B : Nat → Bool) (E : Nat → Int) (x : AX) (A' : AF) (_ : AH) : Prop := A'.tm.n = 79 ∧ A'.marks = [] ∧ ((x = .exit 0 ∧ firstE B E 12 0 = 0) ∨ (x = .ret ∧ A'.tm.get 2 = .int .i64 (firstE B E 12 0)))

noncomputable def ruleB (s : SV) : Nat → Bool
  | 0 => btw s.p 3 4
  | 1 => decide ((s.n : Int) ≤ 3)
  | 2 => !anyBad s.g s.n
  | 3 => btw s.w 0 4
  | 4 => btw s.d 0 3
  | 5 => btw s.f 0 8
  | 6 => btw s.c 1 4
  | 7 => btw s.m 1 4
  | 8 => btw s.de 0 20
  | 9 => decide (s.plain ≥ 1)
  | 10 => s.reds == 0
  | _ => decide (s.size ≥ wrapI .i64 (wrapI .i64 (wrapI .i64 (s.p * s.full) + 1) + s.de))

noncomputable def ruleE (s : SV) : Nat → Int
  | 1 => 8
  | 9 => 6
  | 10 => s.reds
  | 11 => 6
  | _ => 2

/-- What Check says. -/
noncomputable def SV.err (s : SV) : Int := firstE (ruleB s) (ruleE s) 12 0

theorem L3_71 (s : SV) (H : AH) (h0 : lookB H.bs 0 = some (.ints s.g)) (h1 : lookB H.bs 1 = some (.ints s.h)) : inH L3 (.func (.func 88) #[] #[]) [s.val] H = some (.int .i64 s.reds, H) :=
  inH_hd (orH_l (orH_l (orH_r rfl (orH_r (canH_other rfl) (orH_l (canH_set h0 h1))))))

set_option maxRecDepth 10000 in
set_option maxHeartbeats 4000000 in
theorem check_ev (s : SV) : ∃ H', evFn (tabT Try.prog) (inH L3) 300 kpT 63 Try.f63 [s.val] s.hp = some (.int .i64 s.err, H') := by
  have hp' := L3_71 s
  simp only [SV.val] at hp'
  simp only [evFn, Try.f63, SV.val, SV.hp]
  simp [ec_skip, ec_label, ek_reg, ek_draw, ek_seq, ec_cond, ek_block, ec_loop, ec_exit, ec_ret, ec_scope, ek_nil, ek_op, opK_some, regK_some, seqK_normal, seqK_exit, seqK_ret, blockK_normal, blockK_exit, blockK_ret, evOp, vOp, hOpB, hOpU, hOp, hOpT, aAppendG_tab, aWanted, aYielded, opd, putT, closedV, aBin, intOp, sameK, mapO, joinR, hasAddr, boundOf, pushB, aAlloc, Value.cells, lookB, setB, Nat.beq_eq, tm_n_set, tm_get_set, tm_of_n, tm_of_get, tm_tr_set, tm_tr_of, cellV, putF, appR_eq, takeR_eq, dropR_eq, setR_eq, getR_eq, ↓C75, ↓C76, ↓C77, ↓C79, ↓C17, ↓C18, ↓C22, ↓C71, FA24_0, FA24_1, FA24_2, FA24_3, FA24_4, FA24_5, FA24_6, FA24_7, FA24_8, LD3, LD4, LD22, LD27, LDr, LD24, LEN22, IA22, tkc, cellAt, hp']
  generalize hX : evDrawX _ _ _ _ _ = X
  have hpr : X.map (fun r => (r.1.tm.n, r.1.marks, aLoad (tabT Try.prog) r.2 115 (r.1.tm.get 4))) = some (79, [], some (arrL (ruleB s) (ruleE s))) := by
    rw [← hX]
    kernel_rfl
  clear hX hp'
  simp only [Option.map_eq_some_iff, Prod.mk.injEq] at hpr
  obtain ⟨⟨A1, H1⟩, rfl, hl, hmk, hld⟩ := hpr
  simp only at hl hmk hld
  simp [ec_skip, ec_label, ek_reg, ek_draw, ek_seq, ec_cond, ek_block, ec_loop, ec_exit, ec_ret, ec_scope, ek_nil, ek_op, opK_some, regK_some, seqK_normal, seqK_exit, seqK_ret, blockK_normal, blockK_exit, blockK_ret, evOp, vOp, hOpB, hOpU, hOp, hOpT, aAppendG_tab, aWanted, aYielded, opd, putT, closedV, aBin, intOp, sameK, mapO, joinR, hasAddr, boundOf, pushB, aAlloc, Value.cells, lookB, setB, Nat.beq_eq, tm_n_set, tm_get_set, tm_of_n, tm_of_get, tm_tr_set, tm_tr_of, cellV, putF, appR_eq, takeR_eq, dropR_eq, setR_eq, getR_eq, ↓C75, ↓C76, ↓C77, ↓C79, ↓C17, ↓C18, ↓C22, ↓C71, FA24_0, FA24_1, FA24_2, FA24_3, FA24_4, FA24_5, FA24_6, FA24_7, FA24_8, LD3, LD4, LD22, LD27, LDr, LD24, LEN22, IA22, tkc, cellAt, hl, hmk, hld]
  generalize hr : evLoop _ _ _ _ = r
  obtain ⟨x, A', H', rfl, hl, hmk, hx⟩ := loop_go (Q := Q17 (ruleB s) (ruleE s)) hr (I17 (ruleB s) (ruleE s)) 12 (by omega) ⟨0, by omega, rfl, by simp [tm_n_set, hl], by simp [hmk], by simp [tm_get_set, tm_n_set, hl], by simp [tm_get_set, tm_n_set, hl]⟩ (by
      clear hr
      rintro m A H ⟨i, him, hres, hl, hmk, h69, h70⟩
      simp only [runC]
      cases m with
      | zero =>
        have hi : ¬ (i : Int) < 12 := by omega
        rw [firstE] at hres
        simp [ec_skip, ec_label, ek_reg, ek_draw, ek_seq, ec_cond, ek_block, ec_loop, ec_exit, ec_ret, ec_scope, ek_nil, ek_op, opK_some, regK_some, seqK_normal, seqK_exit, seqK_ret, blockK_normal, blockK_exit, blockK_ret, evOp, vOp, hOpB, hOpU, hOp, hOpT, aAppendG_tab, aWanted, aYielded, opd, putT, closedV, aBin, intOp, sameK, mapO, joinR, hasAddr, boundOf, pushB, aAlloc, Value.cells, lookB, setB, Nat.beq_eq, tm_n_set, tm_get_set, tm_of_n, tm_of_get, tm_tr_set, tm_tr_of, cellV, putF, appR_eq, takeR_eq, dropR_eq, setR_eq, getR_eq, ↓C75, ↓C76, ↓C77, ↓C79, ↓C17, ↓C18, ↓C22, ↓C71, FA24_0, FA24_1, FA24_2, FA24_3, FA24_4, FA24_5, FA24_6, FA24_7, FA24_8, LD3, LD4, LD22, LD27, LDr, LD24, LEN22, IA22, tkc, cellAt, hl, hmk, h69, h70, hi]
        exact .inr ⟨by simp, by simp [tm_n_set, hl], rfl, .inl ⟨rfl, hres.symm⟩⟩
      | succ m =>
        have hi : (i : Int) < 12 := by omega
        have hix := IX77 (ruleB s) (ruleE s) i (by omega)
        have hw : wrapI .i64 ((i : Int) + 1) = ((i + 1 : Nat) : Int) := by rw [wrapI_small (by omega) (by omega)]; rfl
        rw [firstE] at hres
        cases c1 : ruleB s i with
        | true =>
          simp only [c1, if_true] at hres
          simp only [c1] at hix
          simp [ec_skip, ec_label, ek_reg, ek_draw, ek_seq, ec_cond, ek_block, ec_loop, ec_exit, ec_ret, ec_scope, ek_nil, ek_op, opK_some, regK_some, seqK_normal, seqK_exit, seqK_ret, blockK_normal, blockK_exit, blockK_ret, evOp, vOp, hOpB, hOpU, hOp, hOpT, aAppendG_tab, aWanted, aYielded, opd, putT, closedV, aBin, intOp, sameK, mapO, joinR, hasAddr, boundOf, pushB, aAlloc, Value.cells, lookB, setB, Nat.beq_eq, tm_n_set, tm_get_set, tm_of_n, tm_of_get, tm_tr_set, tm_tr_of, cellV, putF, appR_eq, takeR_eq, dropR_eq, setR_eq, getR_eq, ↓C75, ↓C76, ↓C77, ↓C79, ↓C17, ↓C18, ↓C22, ↓C71, FA24_0, FA24_1, FA24_2, FA24_3, FA24_4, FA24_5, FA24_6, FA24_7, FA24_8, LD3, LD4, LD22, LD27, LDr, LD24, LEN22, IA22, tkc, cellAt, ↓AL74, ST74, FA74_0, FA74_1, hl, hmk, h69, h70, hi, hix]
          refine .inl ⟨rfl, m, rfl, i + 1, by omega, hres, ?_⟩
          simp [tm_get_set, tm_n_set, hl, h69, h70, hw]
        | false =>
          simp only [c1, Bool.false_eq_true, if_false] at hres
          simp only [c1] at hix
          simp [ec_skip, ec_label, ek_reg, ek_draw, ek_seq, ec_cond, ek_block, ec_loop, ec_exit, ec_ret, ec_scope, ek_nil, ek_op, opK_some, regK_some, seqK_normal, seqK_exit, seqK_ret, blockK_normal, blockK_exit, blockK_ret, evOp, vOp, hOpB, hOpU, hOp, hOpT, aAppendG_tab, aWanted, aYielded, opd, putT, closedV, aBin, intOp, sameK, mapO, joinR, hasAddr, boundOf, pushB, aAlloc, Value.cells, lookB, setB, Nat.beq_eq, tm_n_set, tm_get_set, tm_of_n, tm_of_get, tm_tr_set, tm_tr_of, cellV, putF, appR_eq, takeR_eq, dropR_eq, setR_eq, getR_eq, ↓C75, ↓C76, ↓C77, ↓C79, ↓C17, ↓C18, ↓C22, ↓C71, FA24_0, FA24_1, FA24_2, FA24_3, FA24_4, FA24_5, FA24_6, FA24_7, FA24_8, LD3, LD4, LD22, LD27, LDr, LD24, LEN22, IA22, tkc, cellAt, ↓AL74, ST74, FA74_0, FA74_1, hl, hmk, h69, h70, hi, hix]
          exact .inr ⟨by simp, by simp [tm_n_set, hl], rfl, .inr ⟨rfl, by simp [tm_get_set, tm_n_set, hl, hres]⟩⟩)
  rcases hx with ⟨rfl, hx⟩ | ⟨rfl, hx⟩
  · simp [ec_skip, ec_label, ek_reg, ek_draw, ek_seq, ec_cond, ek_block, ec_loop, ec_exit, ec_ret, ec_scope, ek_nil, ek_op, opK_some, regK_some, seqK_normal, seqK_exit, seqK_ret, blockK_normal, blockK_exit, blockK_ret, evOp, vOp, hOpB, hOpU, hOp, hOpT, aAppendG_tab, aWanted, aYielded, opd, putT, closedV, aBin, intOp, sameK, mapO, joinR, hasAddr, boundOf, pushB, aAlloc, Value.cells, lookB, setB, Nat.beq_eq, tm_n_set, tm_get_set, tm_of_n, tm_of_get, tm_tr_set, tm_tr_of, cellV, putF, appR_eq, takeR_eq, dropR_eq, setR_eq, getR_eq, ↓C75, ↓C76, ↓C77, ↓C79, ↓C17, ↓C18, ↓C22, ↓C71, FA24_0, FA24_1, FA24_2, FA24_3, FA24_4, FA24_5, FA24_6, FA24_7, FA24_8, LD3, LD4, LD22, LD27, LDr, LD24, LEN22, IA22, tkc, cellAt, finF, takeM, resV, hl, hmk, hx, SV.err]
  · simp [ec_skip, ec_label, ek_reg, ek_draw, ek_seq, ec_cond, ek_block, ec_loop, ec_exit, ec_ret, ec_scope, ek_nil, ek_op, opK_some, regK_some, seqK_normal, seqK_exit, seqK_ret, blockK_normal, blockK_exit, blockK_ret, evOp, vOp, hOpB, hOpU, hOp, hOpT, aAppendG_tab, aWanted, aYielded, opd, putT, closedV, aBin, intOp, sameK, mapO, joinR, hasAddr, boundOf, pushB, aAlloc, Value.cells, lookB, setB, Nat.beq_eq, tm_n_set, tm_get_set, tm_of_n, tm_of_get, tm_tr_set, tm_tr_of, cellV, putF, appR_eq, takeR_eq, dropR_eq, setR_eq, getR_eq, ↓C75, ↓C76, ↓C77, ↓C79, ↓C17, ↓C18, ↓C22, ↓C71, FA24_0, FA24_1, FA24_2, FA24_3, FA24_4, FA24_5, FA24_6, FA24_7, FA24_8, LD3, LD4, LD22, LD27, LDr, LD24, LEN22, IA22, tkc, cellAt, finF, takeM, resV, hl, hmk, hx, SV.err]



end

section
set_option linter.unusedSimpArgs false
set_option linter.unusedVariables false

/-- The memory behind the box of a set. -/
noncomputable def SV.bx (s : SV) : AH := ⟨3, [(2, .cells false [.int .i64 s.p, .slice (some ⟨0, 0, some 1⟩) s.n 0, .int .i64 s.w, .int .i64 s.d, .int .i64 s.f, .int .i64 s.c, .int .i64 s.m, .int .i64 s.de, .slice (some ⟨1, 0, some 1⟩) s.k 0]), (1, .ints s.h), (0, .ints s.g)]⟩

noncomputable def P22 (s : SV) (R : Bool) (r : List DR × Nat) : Prop := r.2 = 3 ∧ wheap s.bx.bs r.1 = s.bx.bs ∧ ∀ tm, tv tm all1 r.1 95 = .bool R ∧ tv tm all1 r.1 5 = tm.get 5 ∧ tv tm all1 r.1 4 = tm.get 4 ∧ tv tm all1 r.1 1 = tm.get 1

noncomputable def prevG (h : Nat → Int) : Nat → Int
  | 0 => -1
  | i + 1 => h i

noncomputable def I18a (s : SV) (m : Nat) (A : AF) (H : AH) : Prop := ∃ (i : Nat), i + m = s.n ∧ idxBad s.g m i = idxBad s.g s.n 0 ∧ A.tm.n = 115 ∧ A.marks = [] ∧ A.tm.get 3 = .int .i64 (i : Int) ∧ A.tm.get 1 = .pointer (some ⟨2, 0, none⟩) ∧ H = s.bx
noncomputable def Q18a (s : SV) (x : AX) (A' : AF) (H : AH) : Prop := A'.tm.n = 115 ∧ A'.marks = [] ∧ H = s.bx ∧ ((x = .exit 0 ∧ anyBad s.g s.n = false ∧ A'.tm.get 1 = .pointer (some ⟨2, 0, none⟩)) ∨ (x = .ret ∧ anyBad s.g s.n = true ∧ A'.tm.get 2 = .int .i64 2))
noncomputable def I18b (s : SV) (m : Nat) (A : AF) (H : AH) : Prop := ∃ (i : Nat), i + m = s.k ∧ redsG s.h (wrapI .i64 (s.plain - 1)) m i (prevG s.h i) = s.reds ∧ A.tm.n = 115 ∧ A.marks = [] ∧ A.tm.get 5 = .int .i64 (i : Int) ∧ A.tm.get 4 = .int .i64 s.plain ∧ A.tm.get 1 = .pointer (some ⟨2, 0, none⟩) ∧ H = s.bx
noncomputable def Q18b (s : SV) (x : AX) (A' : AF) (H : AH) : Prop := A'.tm.n = 115 ∧ A'.marks = [] ∧ H = s.bx ∧ ((x = .exit 2 ∧ s.reds = 0 ∧ A'.tm.get 4 = .int .i64 s.plain ∧ A'.tm.get 1 = .pointer (some ⟨2, 0, none⟩)) ∨ (x = .ret ∧ s.reds ≠ 0 ∧ A'.tm.get 2 = .int .i64 s.reds))

/-- What the document's own Check says. -/
noncomputable def SV.rerr (s : SV) : Int :=
  if btw s.p 3 4 then if 3 < (s.n : Int) then 8 else if anyBad s.g s.n then 2
    else if btw s.w 0 4 && btw s.d 0 3 && btw s.f 0 8 then if btw s.c 1 4 && btw s.m 1 4 && btw s.de 0 20 then
      if s.plain < 1 then 6 else if s.reds = 0 then if s.size < wrapI .i64 (wrapI .i64 (wrapI .i64 (s.p * s.full) + 1) + s.de) then 6 else 0 else s.reds
    else 2 else 2
  else 2

set_option maxRecDepth 10000 in
set_option maxHeartbeats 8000000 in
theorem rcheck_ev (call : Value → List Value → AH → Option (Value × AH)) (hb : ∀ (n l m : Int) (H : AH), call (.func (.func 76) #[] #[]) [.int .i64 n, .int .i64 l, .int .i64 m] H = some (.bool (btw n l m), H))
    (hp : ∀ (s : SV) (H : AH), lookB H.bs 0 = some (.ints s.g) → lookB H.bs 1 = some (.ints s.h) → call (.func (.func 55) #[] #[]) [s.val] H = some (.int .i64 s.plain, H))
    (s : SV) (hn : s.n ≤ 200) (hk : s.k ≤ 200) : ∃ H', evFn (tabT Try.prog) call 300 kpT 51 Try.f51 [s.val] s.hp = some (.int .i64 s.rerr, H') := by
  have hp' := hp s
  simp only [SV.val] at hp'
  simp only [evFn, Try.f51, SV.val, SV.hp]
  cases c1 : btw s.p 3 4 with
  | false => simp [ec_skip, ec_label, ek_reg, ek_draw, ek_seq, ec_cond, ek_block, ec_loop, ec_exit, ec_ret, ec_scope, ek_nil, ek_op, opK_some, regK_some, seqK_normal, seqK_exit, seqK_ret, blockK_normal, blockK_exit, blockK_ret, evOp, vOp, hOpB, hOpU, hOp, hOpT, aAppendG_tab, aWanted, aYielded, opd, putT, closedV, aBin, intOp, sameK, mapO, joinR, hasAddr, boundOf, pushB, aAlloc, Value.cells, lookB, setB, Nat.beq_eq, tm_n_set, tm_get_set, tm_of_n, tm_of_get, tm_tr_set, tm_tr_of, cellV, putF, appR_eq, takeR_eq, dropR_eq, setR_eq, getR_eq, ↓C75, ↓C76, ↓C77, ↓C79, ↓C17, ↓C18, ↓C22, ↓C71, FA24_0, FA24_1, FA24_2, FA24_3, FA24_4, FA24_5, FA24_6, FA24_7, FA24_8, LD3, LD4, LD22, LD27, LDr, LD24, LEN22, IA22, tkc, cellAt, hb, c1, finF, takeM, resV, SV.rerr]
  | true =>
  by_cases c2 : 3 < (s.n : Int)
  · simp [ec_skip, ec_label, ek_reg, ek_draw, ek_seq, ec_cond, ek_block, ec_loop, ec_exit, ec_ret, ec_scope, ek_nil, ek_op, opK_some, regK_some, seqK_normal, seqK_exit, seqK_ret, blockK_normal, blockK_exit, blockK_ret, evOp, vOp, hOpB, hOpU, hOp, hOpT, aAppendG_tab, aWanted, aYielded, opd, putT, closedV, aBin, intOp, sameK, mapO, joinR, hasAddr, boundOf, pushB, aAlloc, Value.cells, lookB, setB, Nat.beq_eq, tm_n_set, tm_get_set, tm_of_n, tm_of_get, tm_tr_set, tm_tr_of, cellV, putF, appR_eq, takeR_eq, dropR_eq, setR_eq, getR_eq, ↓C75, ↓C76, ↓C77, ↓C79, ↓C17, ↓C18, ↓C22, ↓C71, FA24_0, FA24_1, FA24_2, FA24_3, FA24_4, FA24_5, FA24_6, FA24_7, FA24_8, LD3, LD4, LD22, LD27, LDr, LD24, LEN22, IA22, tkc, cellAt, hb, c1, c2, finF, takeM, resV, SV.rerr]
  simp [ec_skip, ec_label, ek_reg, ek_draw, ek_seq, ec_cond, ek_block, ec_loop, ec_exit, ec_ret, ec_scope, ek_nil, ek_op, opK_some, regK_some, seqK_normal, seqK_exit, seqK_ret, blockK_normal, blockK_exit, blockK_ret, evOp, vOp, hOpB, hOpU, hOp, hOpT, aAppendG_tab, aWanted, aYielded, opd, putT, closedV, aBin, intOp, sameK, mapO, joinR, hasAddr, boundOf, pushB, aAlloc, Value.cells, lookB, setB, Nat.beq_eq, tm_n_set, tm_get_set, tm_of_n, tm_of_get, tm_tr_set, tm_tr_of, cellV, putF, appR_eq, takeR_eq, dropR_eq, setR_eq, getR_eq, ↓C75, ↓C76, ↓C77, ↓C79, ↓C17, ↓C18, ↓C22, ↓C71, FA24_0, FA24_1, FA24_2, FA24_3, FA24_4, FA24_5, FA24_6, FA24_7, FA24_8, LD3, LD4, LD22, LD27, LDr, LD24, LEN22, IA22, tkc, cellAt, hb, c1, c2]
  generalize hr : evLoop _ _ _ _ = r
  obtain ⟨x, A', H', rfl, hl, hmk, rfl, hx⟩ := loop_go (Q := Q18a s) hr (I18a s) s.n (by omega) ⟨0, by omega, rfl, rfl, rfl, rfl, rfl, rfl⟩ (by
      clear hr
      rintro m A H ⟨i, him, hres, hl, hmk, h3, h1, rfl⟩
      simp only [runC]
      cases m with
      | zero =>
        have hi : ¬ i < s.n := by omega
        have hany : anyBad s.g s.n = false := by simp [anyBad, ← hres, idxBad]
        simp [ec_skip, ec_label, ek_reg, ek_draw, ek_seq, ec_cond, ek_block, ec_loop, ec_exit, ec_ret, ec_scope, ek_nil, ek_op, opK_some, regK_some, seqK_normal, seqK_exit, seqK_ret, blockK_normal, blockK_exit, blockK_ret, evOp, vOp, hOpB, hOpU, hOp, hOpT, aAppendG_tab, aWanted, aYielded, opd, putT, closedV, aBin, intOp, sameK, mapO, joinR, hasAddr, boundOf, pushB, aAlloc, Value.cells, lookB, setB, Nat.beq_eq, tm_n_set, tm_get_set, tm_of_n, tm_of_get, tm_tr_set, tm_tr_of, cellV, putF, appR_eq, takeR_eq, dropR_eq, setR_eq, getR_eq, ↓C75, ↓C76, ↓C77, ↓C79, ↓C17, ↓C18, ↓C22, ↓C71, FA24_0, FA24_1, FA24_2, FA24_3, FA24_4, FA24_5, FA24_6, FA24_7, FA24_8, LD3, LD4, LD22, LD27, LDr, LD24, LEN22, IA22, tkc, cellAt, SV.bx, hl, hmk, h3, h1, hi]
        exact .inr ⟨by simp, by simp [tm_n_set, hl], rfl, rfl, .inl ⟨rfl, hany, by simp [tm_get_set, tm_n_set, hl, h1]⟩⟩
      | succ m =>
        have hi : i < s.n := by omega
        have hw : wrapI .i64 ((i : Int) + 1) = ((i + 1 : Nat) : Int) := by rw [wrapI_small (by omega) (by omega)]; rfl
        rw [idxBad] at hres
        cases c3 : btw (s.g i) 1 9 with
        | true =>
          simp only [c3, if_true] at hres
          simp [ec_skip, ec_label, ek_reg, ek_draw, ek_seq, ec_cond, ek_block, ec_loop, ec_exit, ec_ret, ec_scope, ek_nil, ek_op, opK_some, regK_some, seqK_normal, seqK_exit, seqK_ret, blockK_normal, blockK_exit, blockK_ret, evOp, vOp, hOpB, hOpU, hOp, hOpT, aAppendG_tab, aWanted, aYielded, opd, putT, closedV, aBin, intOp, sameK, mapO, joinR, hasAddr, boundOf, pushB, aAlloc, Value.cells, lookB, setB, Nat.beq_eq, tm_n_set, tm_get_set, tm_of_n, tm_of_get, tm_tr_set, tm_tr_of, cellV, putF, appR_eq, takeR_eq, dropR_eq, setR_eq, getR_eq, ↓C75, ↓C76, ↓C77, ↓C79, ↓C17, ↓C18, ↓C22, ↓C71, FA24_0, FA24_1, FA24_2, FA24_3, FA24_4, FA24_5, FA24_6, FA24_7, FA24_8, LD3, LD4, LD22, LD27, LDr, LD24, LEN22, IA22, tkc, cellAt, SV.bx, hl, hmk, h3, h1, hi, hb, c3]
          refine .inl ⟨rfl, m, rfl, i + 1, by omega, hres, ?_⟩
          simp [SV.bx, tm_get_set, tm_n_set, hl, h3, h1, hw]
        | false =>
          simp only [c3, Bool.false_eq_true, if_false] at hres
          have hany : anyBad s.g s.n = true := by simp [anyBad, ← hres]
          simp [ec_skip, ec_label, ek_reg, ek_draw, ek_seq, ec_cond, ek_block, ec_loop, ec_exit, ec_ret, ec_scope, ek_nil, ek_op, opK_some, regK_some, seqK_normal, seqK_exit, seqK_ret, blockK_normal, blockK_exit, blockK_ret, evOp, vOp, hOpB, hOpU, hOp, hOpT, aAppendG_tab, aWanted, aYielded, opd, putT, closedV, aBin, intOp, sameK, mapO, joinR, hasAddr, boundOf, pushB, aAlloc, Value.cells, lookB, setB, Nat.beq_eq, tm_n_set, tm_get_set, tm_of_n, tm_of_get, tm_tr_set, tm_tr_of, cellV, putF, appR_eq, takeR_eq, dropR_eq, setR_eq, getR_eq, ↓C75, ↓C76, ↓C77, ↓C79, ↓C17, ↓C18, ↓C22, ↓C71, FA24_0, FA24_1, FA24_2, FA24_3, FA24_4, FA24_5, FA24_6, FA24_7, FA24_8, LD3, LD4, LD22, LD27, LDr, LD24, LEN22, IA22, tkc, cellAt, SV.bx, hl, hmk, h3, h1, hi, hb, c3]
          exact .inr ⟨by simp, by simp [tm_n_set, hl], rfl, rfl, .inr ⟨rfl, hany, by simp [tm_get_set, tm_n_set, hl]⟩⟩)
  clear hr
  rcases hx with ⟨rfl, c3, h1⟩ | ⟨rfl, c3, h2⟩
  rotate_left
  · simp [ec_skip, ec_label, ek_reg, ek_draw, ek_seq, ec_cond, ek_block, ec_loop, ec_exit, ec_ret, ec_scope, ek_nil, ek_op, opK_some, regK_some, seqK_normal, seqK_exit, seqK_ret, blockK_normal, blockK_exit, blockK_ret, evOp, vOp, hOpB, hOpU, hOp, hOpT, aAppendG_tab, aWanted, aYielded, opd, putT, closedV, aBin, intOp, sameK, mapO, joinR, hasAddr, boundOf, pushB, aAlloc, Value.cells, lookB, setB, Nat.beq_eq, tm_n_set, tm_get_set, tm_of_n, tm_of_get, tm_tr_set, tm_tr_of, cellV, putF, appR_eq, takeR_eq, dropR_eq, setR_eq, getR_eq, ↓C75, ↓C76, ↓C77, ↓C79, ↓C17, ↓C18, ↓C22, ↓C71, FA24_0, FA24_1, FA24_2, FA24_3, FA24_4, FA24_5, FA24_6, FA24_7, FA24_8, LD3, LD4, LD22, LD27, LDr, LD24, LEN22, IA22, tkc, cellAt, finF, takeM, resV, hl, hmk, h2, c1, c2, c3, SV.rerr]
  cases c4 : btw s.w 0 4 with
  | false => simp [ec_skip, ec_label, ek_reg, ek_draw, ek_seq, ec_cond, ek_block, ec_loop, ec_exit, ec_ret, ec_scope, ek_nil, ek_op, opK_some, regK_some, seqK_normal, seqK_exit, seqK_ret, blockK_normal, blockK_exit, blockK_ret, evOp, vOp, hOpB, hOpU, hOp, hOpT, aAppendG_tab, aWanted, aYielded, opd, putT, closedV, aBin, intOp, sameK, mapO, joinR, hasAddr, boundOf, pushB, aAlloc, Value.cells, lookB, setB, Nat.beq_eq, tm_n_set, tm_get_set, tm_of_n, tm_of_get, tm_tr_set, tm_tr_of, cellV, putF, appR_eq, takeR_eq, dropR_eq, setR_eq, getR_eq, ↓C75, ↓C76, ↓C77, ↓C79, ↓C17, ↓C18, ↓C22, ↓C71, FA24_0, FA24_1, FA24_2, FA24_3, FA24_4, FA24_5, FA24_6, FA24_7, FA24_8, LD3, LD4, LD22, LD27, LDr, LD24, LEN22, IA22, tkc, cellAt, SV.bx, finF, takeM, resV, hl, hmk, h1, hb, c1, c2, c3, c4, SV.rerr]
  | true =>
  cases c5 : btw s.d 0 3 with
  | false => simp [ec_skip, ec_label, ek_reg, ek_draw, ek_seq, ec_cond, ek_block, ec_loop, ec_exit, ec_ret, ec_scope, ek_nil, ek_op, opK_some, regK_some, seqK_normal, seqK_exit, seqK_ret, blockK_normal, blockK_exit, blockK_ret, evOp, vOp, hOpB, hOpU, hOp, hOpT, aAppendG_tab, aWanted, aYielded, opd, putT, closedV, aBin, intOp, sameK, mapO, joinR, hasAddr, boundOf, pushB, aAlloc, Value.cells, lookB, setB, Nat.beq_eq, tm_n_set, tm_get_set, tm_of_n, tm_of_get, tm_tr_set, tm_tr_of, cellV, putF, appR_eq, takeR_eq, dropR_eq, setR_eq, getR_eq, ↓C75, ↓C76, ↓C77, ↓C79, ↓C17, ↓C18, ↓C22, ↓C71, FA24_0, FA24_1, FA24_2, FA24_3, FA24_4, FA24_5, FA24_6, FA24_7, FA24_8, LD3, LD4, LD22, LD27, LDr, LD24, LEN22, IA22, tkc, cellAt, SV.bx, finF, takeM, resV, hl, hmk, h1, hb, c1, c2, c3, c4, c5, SV.rerr]
  | true =>
  cases c6 : btw s.f 0 8 with
  | false => simp [ec_skip, ec_label, ek_reg, ek_draw, ek_seq, ec_cond, ek_block, ec_loop, ec_exit, ec_ret, ec_scope, ek_nil, ek_op, opK_some, regK_some, seqK_normal, seqK_exit, seqK_ret, blockK_normal, blockK_exit, blockK_ret, evOp, vOp, hOpB, hOpU, hOp, hOpT, aAppendG_tab, aWanted, aYielded, opd, putT, closedV, aBin, intOp, sameK, mapO, joinR, hasAddr, boundOf, pushB, aAlloc, Value.cells, lookB, setB, Nat.beq_eq, tm_n_set, tm_get_set, tm_of_n, tm_of_get, tm_tr_set, tm_tr_of, cellV, putF, appR_eq, takeR_eq, dropR_eq, setR_eq, getR_eq, ↓C75, ↓C76, ↓C77, ↓C79, ↓C17, ↓C18, ↓C22, ↓C71, FA24_0, FA24_1, FA24_2, FA24_3, FA24_4, FA24_5, FA24_6, FA24_7, FA24_8, LD3, LD4, LD22, LD27, LDr, LD24, LEN22, IA22, tkc, cellAt, SV.bx, finF, takeM, resV, hl, hmk, h1, hb, c1, c2, c3, c4, c5, c6, SV.rerr]
  | true =>
  cases c7 : btw s.c 1 4 with
  | false => simp [ec_skip, ec_label, ek_reg, ek_draw, ek_seq, ec_cond, ek_block, ec_loop, ec_exit, ec_ret, ec_scope, ek_nil, ek_op, opK_some, regK_some, seqK_normal, seqK_exit, seqK_ret, blockK_normal, blockK_exit, blockK_ret, evOp, vOp, hOpB, hOpU, hOp, hOpT, aAppendG_tab, aWanted, aYielded, opd, putT, closedV, aBin, intOp, sameK, mapO, joinR, hasAddr, boundOf, pushB, aAlloc, Value.cells, lookB, setB, Nat.beq_eq, tm_n_set, tm_get_set, tm_of_n, tm_of_get, tm_tr_set, tm_tr_of, cellV, putF, appR_eq, takeR_eq, dropR_eq, setR_eq, getR_eq, ↓C75, ↓C76, ↓C77, ↓C79, ↓C17, ↓C18, ↓C22, ↓C71, FA24_0, FA24_1, FA24_2, FA24_3, FA24_4, FA24_5, FA24_6, FA24_7, FA24_8, LD3, LD4, LD22, LD27, LDr, LD24, LEN22, IA22, tkc, cellAt, SV.bx, finF, takeM, resV, hl, hmk, h1, hb, c1, c2, c3, c4, c5, c6, c7, SV.rerr]
  | true =>
  cases c8 : btw s.m 1 4 with
  | false => simp [ec_skip, ec_label, ek_reg, ek_draw, ek_seq, ec_cond, ek_block, ec_loop, ec_exit, ec_ret, ec_scope, ek_nil, ek_op, opK_some, regK_some, seqK_normal, seqK_exit, seqK_ret, blockK_normal, blockK_exit, blockK_ret, evOp, vOp, hOpB, hOpU, hOp, hOpT, aAppendG_tab, aWanted, aYielded, opd, putT, closedV, aBin, intOp, sameK, mapO, joinR, hasAddr, boundOf, pushB, aAlloc, Value.cells, lookB, setB, Nat.beq_eq, tm_n_set, tm_get_set, tm_of_n, tm_of_get, tm_tr_set, tm_tr_of, cellV, putF, appR_eq, takeR_eq, dropR_eq, setR_eq, getR_eq, ↓C75, ↓C76, ↓C77, ↓C79, ↓C17, ↓C18, ↓C22, ↓C71, FA24_0, FA24_1, FA24_2, FA24_3, FA24_4, FA24_5, FA24_6, FA24_7, FA24_8, LD3, LD4, LD22, LD27, LDr, LD24, LEN22, IA22, tkc, cellAt, SV.bx, finF, takeM, resV, hl, hmk, h1, hb, c1, c2, c3, c4, c5, c6, c7, c8, SV.rerr]
  | true =>
  cases c9 : btw s.de 0 20 with
  | false => simp [ec_skip, ec_label, ek_reg, ek_draw, ek_seq, ec_cond, ek_block, ec_loop, ec_exit, ec_ret, ec_scope, ek_nil, ek_op, opK_some, regK_some, seqK_normal, seqK_exit, seqK_ret, blockK_normal, blockK_exit, blockK_ret, evOp, vOp, hOpB, hOpU, hOp, hOpT, aAppendG_tab, aWanted, aYielded, opd, putT, closedV, aBin, intOp, sameK, mapO, joinR, hasAddr, boundOf, pushB, aAlloc, Value.cells, lookB, setB, Nat.beq_eq, tm_n_set, tm_get_set, tm_of_n, tm_of_get, tm_tr_set, tm_tr_of, cellV, putF, appR_eq, takeR_eq, dropR_eq, setR_eq, getR_eq, ↓C75, ↓C76, ↓C77, ↓C79, ↓C17, ↓C18, ↓C22, ↓C71, FA24_0, FA24_1, FA24_2, FA24_3, FA24_4, FA24_5, FA24_6, FA24_7, FA24_8, LD3, LD4, LD22, LD27, LDr, LD24, LEN22, IA22, tkc, cellAt, SV.bx, finF, takeM, resV, hl, hmk, h1, hb, c1, c2, c3, c4, c5, c6, c7, c8, c9, SV.rerr]
  | true =>
  by_cases c10 : s.plain < 1
  · simp [ec_skip, ec_label, ek_reg, ek_draw, ek_seq, ec_cond, ek_block, ec_loop, ec_exit, ec_ret, ec_scope, ek_nil, ek_op, opK_some, regK_some, seqK_normal, seqK_exit, seqK_ret, blockK_normal, blockK_exit, blockK_ret, evOp, vOp, hOpB, hOpU, hOp, hOpT, aAppendG_tab, aWanted, aYielded, opd, putT, closedV, aBin, intOp, sameK, mapO, joinR, hasAddr, boundOf, pushB, aAlloc, Value.cells, lookB, setB, Nat.beq_eq, tm_n_set, tm_get_set, tm_of_n, tm_of_get, tm_tr_set, tm_tr_of, cellV, putF, appR_eq, takeR_eq, dropR_eq, setR_eq, getR_eq, ↓C75, ↓C76, ↓C77, ↓C79, ↓C17, ↓C18, ↓C22, ↓C71, FA24_0, FA24_1, FA24_2, FA24_3, FA24_4, FA24_5, FA24_6, FA24_7, FA24_8, LD3, LD4, LD22, LD27, LDr, LD24, LEN22, IA22, tkc, cellAt, SV.bx, finF, takeM, resV, hl, hmk, h1, hb, hp', c1, c2, c3, c4, c5, c6, c7, c8, c9, c10, SV.rerr]
  simp [ec_skip, ec_label, ek_reg, ek_draw, ek_seq, ec_cond, ek_block, ec_loop, ec_exit, ec_ret, ec_scope, ek_nil, ek_op, opK_some, regK_some, seqK_normal, seqK_exit, seqK_ret, blockK_normal, blockK_exit, blockK_ret, evOp, vOp, hOpB, hOpU, hOp, hOpT, aAppendG_tab, aWanted, aYielded, opd, putT, closedV, aBin, intOp, sameK, mapO, joinR, hasAddr, boundOf, pushB, aAlloc, Value.cells, lookB, setB, Nat.beq_eq, tm_n_set, tm_get_set, tm_of_n, tm_of_get, tm_tr_set, tm_tr_of, cellV, putF, appR_eq, takeR_eq, dropR_eq, setR_eq, getR_eq, ↓C75, ↓C76, ↓C77, ↓C79, ↓C17, ↓C18, ↓C22, ↓C71, FA24_0, FA24_1, FA24_2, FA24_3, FA24_4, FA24_5, FA24_6, FA24_7, FA24_8, LD3, LD4, LD22, LD27, LDr, LD24, LEN22, IA22, tkc, cellAt, SV.bx, hl, hmk, h1, hb, hp', c1, c2, c3, c4, c5, c6, c7, c8, c9, c10]
  generalize hr : evLoop _ _ _ _ = r
  obtain ⟨x, A2, H2, rfl, hl2, hmk2, rfl, hx⟩ := loop_go (Q := Q18b s) hr (I18b s) s.k (by omega) ⟨0, by omega, rfl, by simp [tm_n_set, hl], by simp, by simp [tm_get_set, tm_n_set, hl], by simp [tm_get_set, tm_n_set, hl], by simp [tm_get_set, tm_n_set, hl, h1], rfl⟩ (by
      clear hr
      clear hl hmk h1 A'
      rintro m A H ⟨i, him, hres, hl, hmk, h5, h4, h1, rfl⟩
      simp only [runC]
      cases m with
      | zero =>
        have hi : ¬ i < s.k := by omega
        simp only [redsG] at hres
        simp [ec_skip, ec_label, ek_reg, ek_draw, ek_seq, ec_cond, ek_block, ec_loop, ec_exit, ec_ret, ec_scope, ek_nil, ek_op, opK_some, regK_some, seqK_normal, seqK_exit, seqK_ret, blockK_normal, blockK_exit, blockK_ret, evOp, vOp, hOpB, hOpU, hOp, hOpT, aAppendG_tab, aWanted, aYielded, opd, putT, closedV, aBin, intOp, sameK, mapO, joinR, hasAddr, boundOf, pushB, aAlloc, Value.cells, lookB, setB, Nat.beq_eq, tm_n_set, tm_get_set, tm_of_n, tm_of_get, tm_tr_set, tm_tr_of, cellV, putF, appR_eq, takeR_eq, dropR_eq, setR_eq, getR_eq, ↓C75, ↓C76, ↓C77, ↓C79, ↓C17, ↓C18, ↓C22, ↓C71, FA24_0, FA24_1, FA24_2, FA24_3, FA24_4, FA24_5, FA24_6, FA24_7, FA24_8, LD3, LD4, LD22, LD27, LDr, LD24, LEN22, IA22, tkc, cellAt, SV.bx, hl, hmk, h5, h4, h1, hi]
        exact .inr ⟨by simp, by simp [tm_n_set, hl], rfl, rfl, .inl ⟨rfl, hres.symm, by simp [tm_get_set, tm_n_set, hl, h4], by simp [tm_get_set, tm_n_set, hl, h1]⟩⟩
      | succ m =>
        have hi : i < s.k := by omega
        have hw : wrapI .i64 ((i : Int) + 1) = ((i + 1 : Nat) : Int) := by rw [wrapI_small (by omega) (by omega)]; rfl
        simp only [redsG] at hres
        cases d1 : btw (s.h i) 0 (wrapI .i64 (s.plain - 1)) with
        | false =>
          simp only [d1, Bool.false_eq_true, if_false] at hres
          simp [ec_skip, ec_label, ek_reg, ek_draw, ek_seq, ec_cond, ek_block, ec_loop, ec_exit, ec_ret, ec_scope, ek_nil, ek_op, opK_some, regK_some, seqK_normal, seqK_exit, seqK_ret, blockK_normal, blockK_exit, blockK_ret, evOp, vOp, hOpB, hOpU, hOp, hOpT, aAppendG_tab, aWanted, aYielded, opd, putT, closedV, aBin, intOp, sameK, mapO, joinR, hasAddr, boundOf, pushB, aAlloc, Value.cells, lookB, setB, Nat.beq_eq, tm_n_set, tm_get_set, tm_of_n, tm_of_get, tm_tr_set, tm_tr_of, cellV, putF, appR_eq, takeR_eq, dropR_eq, setR_eq, getR_eq, ↓C75, ↓C76, ↓C77, ↓C79, ↓C17, ↓C18, ↓C22, ↓C71, FA24_0, FA24_1, FA24_2, FA24_3, FA24_4, FA24_5, FA24_6, FA24_7, FA24_8, LD3, LD4, LD22, LD27, LDr, LD24, LEN22, IA22, tkc, cellAt, SV.bx, hl, hmk, h5, h4, h1, hi, hb, d1]
          exact .inr ⟨by simp, by simp [tm_n_set, hl], rfl, rfl, .inr ⟨rfl, by rw [← hres]; decide, by simp [tm_get_set, tm_n_set, hl, hres]⟩⟩
        | true =>
          simp only [d1, if_true] at hres
          simp [ec_skip, ec_label, ek_reg, ek_draw, ek_seq, ec_cond, ek_block, ec_loop, ec_exit, ec_ret, ec_scope, ek_nil, ek_op, opK_some, regK_some, seqK_normal, seqK_exit, seqK_ret, blockK_normal, blockK_exit, blockK_ret, evOp, vOp, hOpB, hOpU, hOp, hOpT, aAppendG_tab, aWanted, aYielded, opd, putT, closedV, aBin, intOp, sameK, mapO, joinR, hasAddr, boundOf, pushB, aAlloc, Value.cells, lookB, setB, Nat.beq_eq, tm_n_set, tm_get_set, tm_of_n, tm_of_get, tm_tr_set, tm_tr_of, cellV, putF, appR_eq, takeR_eq, dropR_eq, setR_eq, getR_eq, ↓C75, ↓C76, ↓C77, ↓C79, ↓C17, ↓C18, ↓C22, ↓C71, FA24_0, FA24_1, FA24_2, FA24_3, FA24_4, FA24_5, FA24_6, FA24_7, FA24_8, LD3, LD4, LD22, LD27, LDr, LD24, LEN22, IA22, tkc, cellAt, SV.bx, hl, hmk, h5, h4, h1, hi, hb, d1]
          generalize hX : evDrawX _ _ _ _ _ = X
          clear hp hp'
          by_cases hpos : (0 : Int) < (i : Int)
          · obtain ⟨j, hij⟩ : ∃ j, i = j + 1 := ⟨i - 1, by omega⟩
            have hwj : wrapI .i64 ((i : Int) - 1) = (j : Int) := by rw [wrapI_small (by omega) (by omega)]; omega
            have hj : j < s.k := by omega
            obtain ⟨⟨rs, nx⟩, rfl, hnx, hwh, htv⟩ := evDraw_ex (Pq := P22 s (decide (s.h i ≤ s.h j))) hX (by kernel_rfl) (by simp [decrK]) (by
              clear hX
              generalize befs _ = M
              have hpos' : 0 < i := by omega
              simp [mapO, drRun, drOp, dr3, looks, guardT, tmpsOf, Op.operands, Call.operands, wantedR, gOf, finT, natMem, isNil, writesF, evOp, vOp, hOpB, hOpU, hOp, hOpT, aAppendG_tab, opd, closedV, aBin, intOp, sameK, opdO, boundOf, undef, lookB, Nat.beq_eq, tm_n_set, tm_get_set, tm_of_n, tm_of_get, tm_tr_set, tm_tr_of, b02, b12, b32, ↓G75, W75, ↓G76, W76, ↓G77, W77, ↓G79, W79, ↓G17, W17, ↓G18, W18, ↓G22, W22, ↓G71, W71, tv, all1, roB, roK, news, newOnes, decr, tkc, cellAt, FA24_8, LD22, LDr, IA22, hl, h5, h1, hpos', hwj, hi, hj]
              exact ⟨by simp [dynOK, b02, b12, b32], rfl, by simp [SV.bx, wheap, news, b02, b12, b32], fun tm => by simp [tv, all1]⟩)
            have hprev : prevG s.h i = s.h j := by rw [hij]; rfl
            rw [hprev] at hres
            simp only at hnx hwh htv
            subst hnx
            simp only [SV.bx] at hwh
            by_cases d2 : s.h i ≤ s.h j
            · simp only [d2, if_true] at hres
              simp [ec_skip, ec_label, ek_reg, ek_draw, ek_seq, ec_cond, ek_block, ec_loop, ec_exit, ec_ret, ec_scope, ek_nil, ek_op, opK_some, regK_some, seqK_normal, seqK_exit, seqK_ret, blockK_normal, blockK_exit, blockK_ret, evOp, vOp, hOpB, hOpU, hOp, hOpT, aAppendG_tab, aWanted, aYielded, opd, putT, closedV, aBin, intOp, sameK, mapO, joinR, hasAddr, boundOf, pushB, aAlloc, Value.cells, lookB, setB, Nat.beq_eq, tm_n_set, tm_get_set, tm_of_n, tm_of_get, tm_tr_set, tm_tr_of, cellV, putF, appR_eq, takeR_eq, dropR_eq, setR_eq, getR_eq, ↓C75, ↓C76, ↓C77, ↓C79, ↓C17, ↓C18, ↓C22, ↓C71, FA24_0, FA24_1, FA24_2, FA24_3, FA24_4, FA24_5, FA24_6, FA24_7, FA24_8, LD3, LD4, LD22, LD27, LDr, LD24, LEN22, IA22, tkc, cellAt, tm_fin, fin_n, htv, hl, hmk, h5, h4, h1, d2, hwh]
              refine ⟨_, _, _, ⟨rfl, rfl, rfl⟩, .inr ⟨by simp, by simp [tm_n_set, fin_n, hl], rfl, rfl, .inr ⟨rfl, by rw [← hres]; decide, by simp [tm_fin, fin_n, htv, tm_get_set, tm_n_set, hl, hres]⟩⟩⟩
            · simp only [d2, if_false] at hres
              simp [ec_skip, ec_label, ek_reg, ek_draw, ek_seq, ec_cond, ek_block, ec_loop, ec_exit, ec_ret, ec_scope, ek_nil, ek_op, opK_some, regK_some, seqK_normal, seqK_exit, seqK_ret, blockK_normal, blockK_exit, blockK_ret, evOp, vOp, hOpB, hOpU, hOp, hOpT, aAppendG_tab, aWanted, aYielded, opd, putT, closedV, aBin, intOp, sameK, mapO, joinR, hasAddr, boundOf, pushB, aAlloc, Value.cells, lookB, setB, Nat.beq_eq, tm_n_set, tm_get_set, tm_of_n, tm_of_get, tm_tr_set, tm_tr_of, cellV, putF, appR_eq, takeR_eq, dropR_eq, setR_eq, getR_eq, ↓C75, ↓C76, ↓C77, ↓C79, ↓C17, ↓C18, ↓C22, ↓C71, FA24_0, FA24_1, FA24_2, FA24_3, FA24_4, FA24_5, FA24_6, FA24_7, FA24_8, LD3, LD4, LD22, LD27, LDr, LD24, LEN22, IA22, tkc, cellAt, tm_fin, fin_n, htv, hl, hmk, h5, h4, h1, d2, hw, hwh]
              refine ⟨_, _, _, ⟨rfl, rfl, rfl⟩, .inl ⟨rfl, m, rfl, i + 1, by omega, hres, ?_⟩⟩
              simp [SV.bx, wrapI_one, tm_fin, fin_n, htv, tm_get_set, tm_n_set, hl, h5, h4, h1]
          · obtain rfl : i = 0 := by omega
            obtain ⟨⟨rs, nx⟩, rfl, hnx, hwh, htv⟩ := evDraw_ex (Pq := P22 s false) hX (by kernel_rfl) (by simp [decrK]) (by
              clear hX
              simp [mapO, drRun, drOp, dr3, looks, guardT, tmpsOf, Op.operands, Call.operands, wantedR, gOf, finT, natMem, isNil, writesF, evOp, vOp, hOpB, hOpU, hOp, hOpT, aAppendG_tab, opd, closedV, aBin, intOp, sameK, opdO, boundOf, undef, lookB, Nat.beq_eq, tm_n_set, tm_get_set, tm_of_n, tm_of_get, tm_tr_set, tm_tr_of, b02, b12, b32, ↓G75, W75, ↓G76, W76, ↓G77, W77, ↓G79, W79, ↓G17, W17, ↓G18, W18, ↓G22, W22, ↓G71, W71, tv, all1, roB, roK, news, newOnes, decr, tkc, cellAt, FA24_8, LD22, LDr, IA22, hl, h5, h1, hpos]
              exact ⟨by simp [dynOK, b02, b12, b32], rfl, by simp [SV.bx, wheap, news, b02, b12, b32], fun tm => by simp [tv, all1]⟩)
            have d2 : ¬ s.h 0 ≤ prevG s.h 0 := by
              simp only [btw, Bool.and_eq_true, decide_eq_true_eq] at d1
              simp only [prevG]
              omega
            simp only at hnx hwh htv
            subst hnx
            simp only [SV.bx] at hwh
            simp only [d2, if_false] at hres
            simp [ec_skip, ec_label, ek_reg, ek_draw, ek_seq, ec_cond, ek_block, ec_loop, ec_exit, ec_ret, ec_scope, ek_nil, ek_op, opK_some, regK_some, seqK_normal, seqK_exit, seqK_ret, blockK_normal, blockK_exit, blockK_ret, evOp, vOp, hOpB, hOpU, hOp, hOpT, aAppendG_tab, aWanted, aYielded, opd, putT, closedV, aBin, intOp, sameK, mapO, joinR, hasAddr, boundOf, pushB, aAlloc, Value.cells, lookB, setB, Nat.beq_eq, tm_n_set, tm_get_set, tm_of_n, tm_of_get, tm_tr_set, tm_tr_of, cellV, putF, appR_eq, takeR_eq, dropR_eq, setR_eq, getR_eq, ↓C75, ↓C76, ↓C77, ↓C79, ↓C17, ↓C18, ↓C22, ↓C71, FA24_0, FA24_1, FA24_2, FA24_3, FA24_4, FA24_5, FA24_6, FA24_7, FA24_8, LD3, LD4, LD22, LD27, LDr, LD24, LEN22, IA22, tkc, cellAt, tm_fin, fin_n, htv, hl, hmk, h5, h4, h1, d2, hw, hwh]
            refine ⟨_, _, _, ⟨rfl, rfl, rfl⟩, .inl ⟨rfl, m, rfl, 1, by omega, hres, ?_⟩⟩
            simp [SV.bx, wrapI_one, tm_fin, fin_n, htv, tm_get_set, tm_n_set, hl, h5, h4, h1])
  rcases hx with ⟨rfl, c11, h4, h1⟩ | ⟨rfl, c11, h2⟩
  rotate_left
  · simp [ec_skip, ec_label, ek_reg, ek_draw, ek_seq, ec_cond, ek_block, ec_loop, ec_exit, ec_ret, ec_scope, ek_nil, ek_op, opK_some, regK_some, seqK_normal, seqK_exit, seqK_ret, blockK_normal, blockK_exit, blockK_ret, evOp, vOp, hOpB, hOpU, hOp, hOpT, aAppendG_tab, aWanted, aYielded, opd, putT, closedV, aBin, intOp, sameK, mapO, joinR, hasAddr, boundOf, pushB, aAlloc, Value.cells, lookB, setB, Nat.beq_eq, tm_n_set, tm_get_set, tm_of_n, tm_of_get, tm_tr_set, tm_tr_of, cellV, putF, appR_eq, takeR_eq, dropR_eq, setR_eq, getR_eq, ↓C75, ↓C76, ↓C77, ↓C79, ↓C17, ↓C18, ↓C22, ↓C71, FA24_0, FA24_1, FA24_2, FA24_3, FA24_4, FA24_5, FA24_6, FA24_7, FA24_8, LD3, LD4, LD22, LD27, LDr, LD24, LEN22, IA22, tkc, cellAt, finF, takeM, resV, hl2, hmk2, h2, c1, c2, c3, c4, c5, c6, c7, c8, c9, c10, c11, SV.rerr]
  have hfull : wrapI .i64 (wrapI .i64 (3 * s.m) + 1) = s.full := rfl
  have hsize : wrapI .i64 (wrapI .i64 (s.plain * s.c) + s.f) = s.size := rfl
  by_cases c12 : s.size < wrapI .i64 (wrapI .i64 (wrapI .i64 (s.p * s.full) + 1) + s.de)
  · simp [ec_skip, ec_label, ek_reg, ek_draw, ek_seq, ec_cond, ek_block, ec_loop, ec_exit, ec_ret, ec_scope, ek_nil, ek_op, opK_some, regK_some, seqK_normal, seqK_exit, seqK_ret, blockK_normal, blockK_exit, blockK_ret, evOp, vOp, hOpB, hOpU, hOp, hOpT, aAppendG_tab, aWanted, aYielded, opd, putT, closedV, aBin, intOp, sameK, mapO, joinR, hasAddr, boundOf, pushB, aAlloc, Value.cells, lookB, setB, Nat.beq_eq, tm_n_set, tm_get_set, tm_of_n, tm_of_get, tm_tr_set, tm_tr_of, cellV, putF, appR_eq, takeR_eq, dropR_eq, setR_eq, getR_eq, ↓C75, ↓C76, ↓C77, ↓C79, ↓C17, ↓C18, ↓C22, ↓C71, FA24_0, FA24_1, FA24_2, FA24_3, FA24_4, FA24_5, FA24_6, FA24_7, FA24_8, LD3, LD4, LD22, LD27, LDr, LD24, LEN22, IA22, tkc, cellAt, SV.bx, finF, takeM, resV, hl2, hmk2, h1, h4, hfull, hsize, c1, c2, c3, c4, c5, c6, c7, c8, c9, c10, c11, c12, SV.rerr]
  · simp [ec_skip, ec_label, ek_reg, ek_draw, ek_seq, ec_cond, ek_block, ec_loop, ec_exit, ec_ret, ec_scope, ek_nil, ek_op, opK_some, regK_some, seqK_normal, seqK_exit, seqK_ret, blockK_normal, blockK_exit, blockK_ret, evOp, vOp, hOpB, hOpU, hOp, hOpT, aAppendG_tab, aWanted, aYielded, opd, putT, closedV, aBin, intOp, sameK, mapO, joinR, hasAddr, boundOf, pushB, aAlloc, Value.cells, lookB, setB, Nat.beq_eq, tm_n_set, tm_get_set, tm_of_n, tm_of_get, tm_tr_set, tm_tr_of, cellV, putF, appR_eq, takeR_eq, dropR_eq, setR_eq, getR_eq, ↓C75, ↓C76, ↓C77, ↓C79, ↓C17, ↓C18, ↓C22, ↓C71, FA24_0, FA24_1, FA24_2, FA24_3, FA24_4, FA24_5, FA24_6, FA24_7, FA24_8, LD3, LD4, LD22, LD27, LDr, LD24, LEN22, IA22, tkc, cellAt, SV.bx, finF, takeM, resV, hl2, hmk2, h1, h4, hfull, hsize, c1, c2, c3, c4, c5, c6, c7, c8, c9, c10, c11, c12, SV.rerr]



end

section
set_option linter.unusedSimpArgs false
set_option linter.unusedVariables false


theorem err_eq (s : SV) : s.err = s.rerr := by
  simp only [SV.err, firstE, ruleB, ruleE, SV.rerr]
  by_cases c2 : (s.n : Int) ≤ 3
  · have c2' : ¬ 3 < (s.n : Int) := by omega
    by_cases c9 : s.plain ≥ 1
    · have c9' : ¬ s.plain < 1 := by omega
      by_cases c11 : s.size ≥ wrapI .i64 (wrapI .i64 (wrapI .i64 (s.p * s.full) + 1) + s.de)
      · have c11' : ¬ s.size < wrapI .i64 (wrapI .i64 (wrapI .i64 (s.p * s.full) + 1) + s.de) := by omega
        by_cases c10 : s.reds = 0
        · cases btw s.p 3 4 <;> cases anyBad s.g s.n <;> cases btw s.w 0 4 <;> cases btw s.d 0 3 <;> cases btw s.f 0 8 <;> cases btw s.c 1 4 <;> cases btw s.m 1 4 <;> cases btw s.de 0 20 <;> simp [c2, c2', c9, c9', c10, c11, c11']
        · cases btw s.p 3 4 <;> cases anyBad s.g s.n <;> cases btw s.w 0 4 <;> cases btw s.d 0 3 <;> cases btw s.f 0 8 <;> cases btw s.c 1 4 <;> cases btw s.m 1 4 <;> cases btw s.de 0 20 <;> simp [c2, c2', c9, c9', c10, c11, c11']
      · have c11' : s.size < wrapI .i64 (wrapI .i64 (wrapI .i64 (s.p * s.full) + 1) + s.de) := by omega
        by_cases c10 : s.reds = 0
        · cases btw s.p 3 4 <;> cases anyBad s.g s.n <;> cases btw s.w 0 4 <;> cases btw s.d 0 3 <;> cases btw s.f 0 8 <;> cases btw s.c 1 4 <;> cases btw s.m 1 4 <;> cases btw s.de 0 20 <;> simp [c2, c2', c9, c9', c10, c11, c11']
        · cases btw s.p 3 4 <;> cases anyBad s.g s.n <;> cases btw s.w 0 4 <;> cases btw s.d 0 3 <;> cases btw s.f 0 8 <;> cases btw s.c 1 4 <;> cases btw s.m 1 4 <;> cases btw s.de 0 20 <;> simp [c2, c2', c9, c9', c10, c11, c11']
    · have c9' : s.plain < 1 := by omega
      cases btw s.p 3 4 <;> cases anyBad s.g s.n <;> cases btw s.w 0 4 <;> cases btw s.d 0 3 <;> cases btw s.f 0 8 <;> cases btw s.c 1 4 <;> cases btw s.m 1 4 <;> cases btw s.de 0 20 <;> simp [c2, c2', c9, c9']
  · have c2' : 3 < (s.n : Int) := by omega
    cases btw s.p 3 4 <;> simp [c2, c2']

theorem btw_iff {n l m : Int} : btw n l m = true ↔ l ≤ n ∧ n ≤ m := by simp [btw]

noncomputable def aErr (s : SV) : Option Value := some (.int .i64 s.err)

theorem ok17 : AnsOK (runH L3) 63 (ans1 aErr) := ans1_ok fun s v h => by
  cases h
  refine ⟨rfl, fun _ _ => ?_⟩
  obtain ⟨H', h⟩ := check_ev s
  exact ⟨H', runH_fn F17 rfl h⟩

theorem ok18 : AnsOK (runH L0) 51 (ans1 aErr) := ans1_ok fun s v h => by
  cases h
  refine ⟨rfl, fun hn hk => ?_⟩
  obtain ⟨H', h⟩ := rcheck_ev (inH L0) (fun n l m H => inH_hd (L0_78 n l m H)) (fun s H h0 h1 => inH_hd (L0_79 s H h0 h1)) s hn hk
  rw [err_eq]
  exact ⟨H', runH_fn F18 rfl h⟩

noncomputable def L4 : Hnd := orH (canH 63 (ans1 aErr)) (orH (canH 51 (ans1 aErr)) L3)
theorem L4_ok : CallOK Try.prog L4 := orH_ok (canH_ok (runH_ok L3_ok) ok17) (orH_ok (canH_ok (runH_ok L0_ok) ok18) L3_ok)

theorem L4_17 (s : SV) (H : AH) (h0 : lookB H.bs 0 = some (.ints s.g)) (h1 : lookB H.bs 1 = some (.ints s.h)) : inH L4 (.func (.func 63) #[] #[]) [s.val] H = some (.int .i64 s.err, H) :=
  inH_hd (orH_l (canH_set h0 h1))
theorem L4_18 (s : SV) (H : AH) (h0 : lookB H.bs 0 = some (.ints s.g)) (h1 : lookB H.bs 1 = some (.ints s.h)) : inH L4 (.func (.func 51) #[] #[]) [s.val] H = some (.int .i64 s.err, H) :=
  inH_hd (orH_r (canH_other rfl) (orH_l (canH_set h0 h1)))
theorem L4_79 (s : SV) (H : AH) (h0 : lookB H.bs 0 = some (.ints s.g)) (h1 : lookB H.bs 1 = some (.ints s.h)) : inH L4 (.func (.func 55) #[] #[]) [s.val] H = some (.int .i64 s.plain, H) :=
  inH_hd (orH_r (canH_other rfl) (orH_r (canH_other rfl) (orH_l (orH_l (orH_l (L0_79 s H h0 h1))))))
end

section
set_option linter.unusedSimpArgs false
set_option linter.unusedVariables false

theorem F20 : tabF Try.prog 50 = some Try.f50 := by kernel_rfl
theorem F22 : tabF Try.prog 54 = some Try.f54 := by kernel_rfl
theorem F119 : tabF Try.prog 97 = some Try.f97 := by kernel_rfl
theorem F110 : tabF Try.prog 85 = some Try.f85 := by kernel_rfl
theorem F86 : tabF Try.prog 56 = some Try.f56 := by kernel_rfl
theorem F85 : tabF Try.prog 53 = some Try.f53 := by kernel_rfl
theorem F29 : tabF Try.prog 17 = some Try.f17 := by kernel_rfl
theorem F31 : tabF Try.prog 19 = some Try.f19 := by kernel_rfl
structure SV.Small (s : SV) : Prop where
  n : s.n ≤ 3
  g : ∀ i, i < s.n → 1 ≤ s.g i ∧ s.g i ≤ 9
  w : 0 ≤ s.w ∧ s.w ≤ 4
  d : 0 ≤ s.d ∧ s.d ≤ 3
  f : 0 ≤ s.f ∧ s.f ≤ 8

theorem idxBad_all (g : Nat → Int) : ∀ (m i : Nat), ¬ 0 ≤ idxBad g m i → ∀ j, i ≤ j → j < i + m → 1 ≤ g j ∧ g j ≤ 9
  | 0, i, _, j, h1, h2 => by omega
  | m + 1, i, h, j, h1, h2 => by
    rw [idxBad] at h
    split at h
    · rename_i hb
      by_cases hj : j = i
      · subst hj
        exact btw_iff.1 hb
      · exact idxBad_all g m (i + 1) h j (by omega) (by omega)
    · exact absurd (Int.natCast_nonneg i) h

theorem firstE_step {B : Nat → Bool} {E : Nat → Int} {m i : Nat} (h : firstE B E (m + 1) i = 0) (he : E i ≠ 0) : B i = true ∧ firstE B E m (i + 1) = 0 := by
  rw [firstE] at h
  split at h
  · exact ⟨‹_›, h⟩
  · exact absurd h he

theorem small_of_err {s : SV} (h : s.err = 0) : s.Small := by
  obtain ⟨_, h⟩ := firstE_step (m := 11) (i := 0) h (by simp [ruleE])
  obtain ⟨c1, h⟩ := firstE_step (m := 10) (i := 1) h (by simp [ruleE])
  obtain ⟨c2, h⟩ := firstE_step (m := 9) (i := 2) h (by simp [ruleE])
  obtain ⟨c3, h⟩ := firstE_step (m := 8) (i := 3) h (by simp [ruleE])
  obtain ⟨c4, h⟩ := firstE_step (m := 7) (i := 4) h (by simp [ruleE])
  obtain ⟨c5, _⟩ := firstE_step (m := 6) (i := 5) h (by simp [ruleE])
  simp only [ruleB] at c1 c2 c3 c4 c5
  have b3 := btw_iff.1 c3
  have b4 := btw_iff.1 c4
  have b5 := btw_iff.1 c5
  have b1 : (s.n : Int) ≤ 3 := by simpa using c1
  refine ⟨by omega, fun i hi => ?_, b3, b4, b5⟩
  have b2 : anyBad s.g s.n = false := by simpa using c2
  have b2' : ¬ 0 ≤ idxBad s.g s.n 0 := by simpa [anyBad] using b2
  exact idxBad_all s.g s.n 0 b2' i (by omega) (by omega)

theorem plain_small {s : SV} (h : s.Small) : 0 ≤ s.plain ∧ s.plain ≤ 34 ∧ wrapI .i64 (s.w + s.d) = s.w + s.d := by
  obtain ⟨hn, hg, hw, hd, hf⟩ := h
  have e0 : wrapI .i64 (s.w + s.d) = s.w + s.d := wrapI_small (by omega) (by omega)
  refine ⟨?_, ?_, e0⟩ <;> unfold SV.plain <;> rw [e0]
  all_goals
    generalize hnn : s.n = n at hn hg
    match n, hn, hg with
    | 0, _, _ => simp only [sumG]; omega
    | 1, _, hg =>
      have a0 := hg 0 (by omega)
      simp only [sumG, Nat.zero_add, Nat.reduceAdd]
      rw [wrapI_small (by omega) (by omega)]; omega
    | 2, _, hg =>
      have a0 := hg 0 (by omega)
      have a1 := hg 1 (by omega)
      simp only [sumG, Nat.zero_add, Nat.reduceAdd]
      rw [wrapI_small (n := s.w + s.d + s.g 0) (by omega) (by omega), wrapI_small (by omega) (by omega)]; omega
    | 3, _, hg =>
      have a0 := hg 0 (by omega)
      have a1 := hg 1 (by omega)
      have a2 := hg 2 (by omega)
      simp only [sumG, Nat.zero_add, Nat.reduceAdd]
      rw [wrapI_small (n := s.w + s.d + s.g 0) (by omega) (by omega), wrapI_small (n := s.w + s.d + s.g 0 + s.g 1) (by omega) (by omega), wrapI_small (by omega) (by omega)]; omega
    | n + 4, h4, _ => exact absurd h4 (by omega)

noncomputable def SV.rsize (s : SV) : Int := if s.err = 0 then s.size else 0

noncomputable def P22c (s : SV) (r : List DR × Nat) : Prop := r.2 = 3 ∧ wheap s.bx.bs r.1 = s.bx.bs ∧ ∀ tm, tv tm all1 r.1 2 = .int .i64 s.size

set_option maxRecDepth 10000 in
set_option maxHeartbeats 8000000 in
theorem rsize_ev (call : Value → List Value → AH → Option (Value × AH)) (hc : ∀ (s : SV) (H : AH), lookB H.bs 0 = some (.ints s.g) → lookB H.bs 1 = some (.ints s.h) → call (.func (.func 51) #[] #[]) [s.val] H = some (.int .i64 s.err, H)) (hp : ∀ (s : SV) (H : AH), lookB H.bs 0 = some (.ints s.g) → lookB H.bs 1 = some (.ints s.h) → call (.func (.func 55) #[] #[]) [s.val] H = some (.int .i64 s.plain, H)) (s : SV) : ∃ H', evFn (tabT Try.prog) call 300 kpT 54 Try.f54 [s.val] s.hp = some (.int .i64 s.rsize, H') := by
  have hc' := hc s
  have hp' := hp s
  simp only [SV.val] at hc' hp'
  simp only [evFn, Try.f54, SV.val, SV.hp, SV.rsize]
  by_cases c1 : s.err = 0
  · simp [ec_skip, ec_label, ek_reg, ek_draw, ek_seq, ec_cond, ek_block, ec_loop, ec_exit, ec_ret, ec_scope, ek_nil, ek_op, opK_some, regK_some, seqK_normal, seqK_exit, seqK_ret, blockK_normal, blockK_exit, blockK_ret, evOp, vOp, hOpB, hOpU, hOp, hOpT, aAppendG_tab, aWanted, aYielded, opd, putT, closedV, aBin, intOp, sameK, mapO, joinR, hasAddr, boundOf, pushB, aAlloc, Value.cells, lookB, setB, Nat.beq_eq, tm_n_set, tm_get_set, tm_of_n, tm_of_get, tm_tr_set, tm_tr_of, cellV, putF, appR_eq, takeR_eq, dropR_eq, setR_eq, getR_eq, ↓C75, ↓C76, ↓C77, ↓C79, ↓C17, ↓C18, ↓C22, ↓C71, FA24_0, FA24_1, FA24_2, FA24_3, FA24_4, FA24_5, FA24_6, FA24_7, FA24_8, LD3, LD4, LD22, LD27, LDr, LD24, LEN22, IA22, tkc, cellAt, finF, takeM, resV, hc', c1]
    generalize hX : evDrawX _ _ _ _ _ = X
    obtain ⟨⟨rs, nx⟩, rfl, hnx, hwh, htv⟩ := evDraw_ex (Pq := P22c s) hX (by kernel_rfl) (by simp [decrK]) (by
      clear hX
      generalize befs _ = M
      simp [mapO, drRun, drOp, dr3, looks, guardT, tmpsOf, Op.operands, Call.operands, wantedR, gOf, finT, natMem, isNil, writesF, evOp, vOp, hOpB, hOpU, hOp, hOpT, aAppendG_tab, opd, closedV, aBin, intOp, sameK, opdO, boundOf, undef, lookB, Nat.beq_eq, tm_n_set, tm_get_set, tm_of_n, tm_of_get, tm_tr_set, tm_tr_of, b02, b12, b32, ↓G75, W75, ↓G76, W76, ↓G77, W77, ↓G79, W79, ↓G17, W17, ↓G18, W18, ↓G22, W22, ↓G71, W71, tv, all1, roB, roK, news, newOnes, decr, tkc, cellAt, FA24_0, FA24_4, FA24_5, FA24_8, LD3, LD22, LD24, LDr, IA22, getT, hp']
      exact ⟨by simp [dynOK, b02, b12, b32], rfl, by simp [SV.bx, wheap, news, b02, b12, b32], fun tm => by simp [tv, all1, SV.size]⟩)
    simp [ec_skip, ec_label, ek_reg, ek_draw, ek_seq, ec_cond, ek_block, ec_loop, ec_exit, ec_ret, ec_scope, ek_nil, ek_op, opK_some, regK_some, seqK_normal, seqK_exit, seqK_ret, blockK_normal, blockK_exit, blockK_ret, evOp, vOp, hOpB, hOpU, hOp, hOpT, aAppendG_tab, aWanted, aYielded, opd, putT, closedV, aBin, intOp, sameK, mapO, joinR, hasAddr, boundOf, pushB, aAlloc, Value.cells, lookB, setB, Nat.beq_eq, tm_n_set, tm_get_set, tm_of_n, tm_of_get, tm_tr_set, tm_tr_of, cellV, putF, appR_eq, takeR_eq, dropR_eq, setR_eq, getR_eq, ↓C75, ↓C76, ↓C77, ↓C79, ↓C17, ↓C18, ↓C22, ↓C71, FA24_0, FA24_1, FA24_2, FA24_3, FA24_4, FA24_5, FA24_6, FA24_7, FA24_8, LD3, LD4, LD22, LD27, LDr, LD24, LEN22, IA22, tkc, cellAt, finF, takeM, resV, tm_fin, fin_n, htv]
  · have c1' : (s.err != 0) = true := by simpa using c1
    simp [ec_skip, ec_label, ek_reg, ek_draw, ek_seq, ec_cond, ek_block, ec_loop, ec_exit, ec_ret, ec_scope, ek_nil, ek_op, opK_some, regK_some, seqK_normal, seqK_exit, seqK_ret, blockK_normal, blockK_exit, blockK_ret, evOp, vOp, hOpB, hOpU, hOp, hOpT, aAppendG_tab, aWanted, aYielded, opd, putT, closedV, aBin, intOp, sameK, mapO, joinR, hasAddr, boundOf, pushB, aAlloc, Value.cells, lookB, setB, Nat.beq_eq, tm_n_set, tm_get_set, tm_of_n, tm_of_get, tm_tr_set, tm_tr_of, cellV, putF, appR_eq, takeR_eq, dropR_eq, setR_eq, getR_eq, ↓C75, ↓C76, ↓C77, ↓C79, ↓C17, ↓C18, ↓C22, ↓C71, FA24_0, FA24_1, FA24_2, FA24_3, FA24_4, FA24_5, FA24_6, FA24_7, FA24_8, LD3, LD4, LD22, LD27, LDr, LD24, LEN22, IA22, tkc, cellAt, finF, takeM, resV, hc', c1, c1']

noncomputable def SV.kinds (s : SV) : Int := if s.err = 0 then s.plain else 0

set_option maxRecDepth 10000 in
set_option maxHeartbeats 8000000 in
theorem rkinds_ev (call : Value → List Value → AH → Option (Value × AH)) (hc : ∀ (s : SV) (H : AH), lookB H.bs 0 = some (.ints s.g) → lookB H.bs 1 = some (.ints s.h) → call (.func (.func 51) #[] #[]) [s.val] H = some (.int .i64 s.err, H)) (hp : ∀ (s : SV) (H : AH), lookB H.bs 0 = some (.ints s.g) → lookB H.bs 1 = some (.ints s.h) → call (.func (.func 55) #[] #[]) [s.val] H = some (.int .i64 s.plain, H)) (s : SV) : ∃ H', evFn (tabT Try.prog) call 300 kpT 50 Try.f50 [s.val] s.hp = some (.int .i64 s.kinds, H') := by
  have hc' := hc s
  have hp' := hp s
  simp only [SV.val] at hc' hp'
  simp only [evFn, Try.f50, SV.val, SV.hp, SV.kinds]
  by_cases c1 : s.err = 0
  · simp [ec_skip, ec_label, ek_reg, ek_draw, ek_seq, ec_cond, ek_block, ec_loop, ec_exit, ec_ret, ec_scope, ek_nil, ek_op, opK_some, regK_some, seqK_normal, seqK_exit, seqK_ret, blockK_normal, blockK_exit, blockK_ret, evOp, vOp, hOpB, hOpU, hOp, hOpT, aAppendG_tab, aWanted, aYielded, opd, putT, closedV, aBin, intOp, sameK, mapO, joinR, hasAddr, boundOf, pushB, aAlloc, Value.cells, lookB, setB, Nat.beq_eq, tm_n_set, tm_get_set, tm_of_n, tm_of_get, tm_tr_set, tm_tr_of, cellV, putF, appR_eq, takeR_eq, dropR_eq, setR_eq, getR_eq, ↓C75, ↓C76, ↓C77, ↓C79, ↓C17, ↓C18, ↓C22, ↓C71, FA24_0, FA24_1, FA24_2, FA24_3, FA24_4, FA24_5, FA24_6, FA24_7, FA24_8, LD3, LD4, LD22, LD27, LDr, LD24, LEN22, IA22, tkc, cellAt, finF, takeM, resV, hc', hp', c1]
  · have c1' : (s.err != 0) = true := by simpa using c1
    simp [ec_skip, ec_label, ek_reg, ek_draw, ek_seq, ec_cond, ek_block, ec_loop, ec_exit, ec_ret, ec_scope, ek_nil, ek_op, opK_some, regK_some, seqK_normal, seqK_exit, seqK_ret, blockK_normal, blockK_exit, blockK_ret, evOp, vOp, hOpB, hOpU, hOp, hOpT, aAppendG_tab, aWanted, aYielded, opd, putT, closedV, aBin, intOp, sameK, mapO, joinR, hasAddr, boundOf, pushB, aAlloc, Value.cells, lookB, setB, Nat.beq_eq, tm_n_set, tm_get_set, tm_of_n, tm_of_get, tm_tr_set, tm_tr_of, cellV, putF, appR_eq, takeR_eq, dropR_eq, setR_eq, getR_eq, ↓C75, ↓C76, ↓C77, ↓C79, ↓C17, ↓C18, ↓C22, ↓C71, FA24_0, FA24_1, FA24_2, FA24_3, FA24_4, FA24_5, FA24_6, FA24_7, FA24_8, LD3, LD4, LD22, LD27, LDr, LD24, LEN22, IA22, tkc, cellAt, finF, takeM, resV, hc', c1, c1']

/-- Where a number first lies in a list. -/
noncomputable def idxOfG (g : Nat → Int) (x : Int) : Nat → Nat → Int
  | 0, _ => -1
  | m + 1, i => if x = g i then i else idxOfG g x m (i + 1)

noncomputable def I119 (g : Nat → Int) (n : Nat) (x : Int) (m : Nat) (A : AF) (H : AH) : Prop := ∃ (i : Nat), i + m = n ∧ idxOfG g x m i = idxOfG g x n 0 ∧ A.tm.n = 19 ∧ A.marks = [] ∧ A.tm.get 8 = .int .i64 (i : Int) ∧ A.tm.get 7 = .int .i64 n ∧ A.tm.get 0 = .slice (some ⟨0, 0, some 1⟩) n 0 ∧ A.tm.get 1 = .int .i64 x ∧ H = hp1 g
noncomputable def Q119 (g : Nat → Int) (n : Nat) (x : Int) (y : AX) (A' : AF) (_ : AH) : Prop := A'.tm.n = 19 ∧ A'.marks = [] ∧ ((y = .exit 0 ∧ idxOfG g x n 0 = -1) ∨ (y = .ret ∧ A'.tm.get 4 = .int .i64 (idxOfG g x n 0)))

set_option maxRecDepth 10000 in
set_option maxHeartbeats 8000000 in
theorem index_ev (call : Value → List Value → AH → Option (Value × AH)) (g : Nat → Int) (n : Nat) (x : Int) (hk : n ≤ 200) : ∃ H', evFn (tabT Try.prog) call 300 kpT 97 Try.f97 [sl1 n, .int .i64 x] (hp1 g) = some (.int .i64 (idxOfG g x n 0), H') := by
  simp only [evFn, Try.f97, hp1, sl1]
  simp [ec_skip, ec_label, ek_reg, ek_draw, ek_seq, ec_cond, ek_block, ec_loop, ec_exit, ec_ret, ec_scope, ek_nil, ek_op, opK_some, regK_some, seqK_normal, seqK_exit, seqK_ret, blockK_normal, blockK_exit, blockK_ret, evOp, vOp, hOpB, hOpU, hOp, hOpT, aAppendG_tab, aWanted, aYielded, opd, putT, closedV, aBin, intOp, sameK, mapO, joinR, hasAddr, boundOf, pushB, aAlloc, Value.cells, lookB, setB, Nat.beq_eq, tm_n_set, tm_get_set, tm_of_n, tm_of_get, tm_tr_set, tm_tr_of, cellV, putF, appR_eq, takeR_eq, dropR_eq, setR_eq, getR_eq, ↓C75, ↓C76, ↓C77, ↓C79, ↓C17, ↓C18, ↓C22, ↓C71, FA24_0, FA24_1, FA24_2, FA24_3, FA24_4, FA24_5, FA24_6, FA24_7, FA24_8, LD3, LD4, LD22, LD27, LDr, LD24, LEN22, IA22, tkc, cellAt]
  generalize hr : evLoop _ _ _ _ = r
  obtain ⟨y, A', H', rfl, hl, hmk, hx⟩ := loop_go (Q := Q119 g n x) hr (I119 g n x) n (by omega) ⟨0, by omega, rfl, rfl, rfl, rfl, rfl, rfl, rfl, rfl⟩ (by
      clear hr
      rintro m A H ⟨i, him, hres, hl, hmk, h8, h7, h0, h1, rfl⟩
      simp only [runC]
      cases m with
      | zero =>
        have hi : ¬ i < n := by omega
        rw [idxOfG] at hres
        simp [ec_skip, ec_label, ek_reg, ek_draw, ek_seq, ec_cond, ek_block, ec_loop, ec_exit, ec_ret, ec_scope, ek_nil, ek_op, opK_some, regK_some, seqK_normal, seqK_exit, seqK_ret, blockK_normal, blockK_exit, blockK_ret, evOp, vOp, hOpB, hOpU, hOp, hOpT, aAppendG_tab, aWanted, aYielded, opd, putT, closedV, aBin, intOp, sameK, mapO, joinR, hasAddr, boundOf, pushB, aAlloc, Value.cells, lookB, setB, Nat.beq_eq, tm_n_set, tm_get_set, tm_of_n, tm_of_get, tm_tr_set, tm_tr_of, cellV, putF, appR_eq, takeR_eq, dropR_eq, setR_eq, getR_eq, ↓C75, ↓C76, ↓C77, ↓C79, ↓C17, ↓C18, ↓C22, ↓C71, FA24_0, FA24_1, FA24_2, FA24_3, FA24_4, FA24_5, FA24_6, FA24_7, FA24_8, LD3, LD4, LD22, LD27, LDr, LD24, LEN22, IA22, tkc, cellAt, hp1, hl, hmk, h8, h7, h0, h1, hi]
        exact .inr ⟨by simp, by simp [tm_n_set, hl], rfl, .inl ⟨rfl, hres.symm⟩⟩
      | succ m =>
        have hi : i < n := by omega
        have hw : wrapI .i64 ((i : Int) + 1) = ((i + 1 : Nat) : Int) := by rw [wrapI_small (by omega) (by omega)]; rfl
        rw [idxOfG] at hres
        by_cases c1 : x = g i
        · have c1' : (x == g i) = true := by simpa using c1
          simp only [c1, if_true] at hres
          simp [ec_skip, ec_label, ek_reg, ek_draw, ek_seq, ec_cond, ek_block, ec_loop, ec_exit, ec_ret, ec_scope, ek_nil, ek_op, opK_some, regK_some, seqK_normal, seqK_exit, seqK_ret, blockK_normal, blockK_exit, blockK_ret, evOp, vOp, hOpB, hOpU, hOp, hOpT, aAppendG_tab, aWanted, aYielded, opd, putT, closedV, aBin, intOp, sameK, mapO, joinR, hasAddr, boundOf, pushB, aAlloc, Value.cells, lookB, setB, Nat.beq_eq, tm_n_set, tm_get_set, tm_of_n, tm_of_get, tm_tr_set, tm_tr_of, cellV, putF, appR_eq, takeR_eq, dropR_eq, setR_eq, getR_eq, ↓C75, ↓C76, ↓C77, ↓C79, ↓C17, ↓C18, ↓C22, ↓C71, FA24_0, FA24_1, FA24_2, FA24_3, FA24_4, FA24_5, FA24_6, FA24_7, FA24_8, LD3, LD4, LD22, LD27, LDr, LD24, LEN22, IA22, tkc, cellAt, hp1, hl, hmk, h8, h7, h0, h1, hi, c1']
          exact .inr ⟨by simp, by simp [tm_n_set, hl], rfl, .inr ⟨rfl, by simp [tm_get_set, tm_n_set, hl, c1, hres]⟩⟩
        · have c1' : (x == g i) = false := by simpa using c1
          simp only [c1, if_false] at hres
          simp [ec_skip, ec_label, ek_reg, ek_draw, ek_seq, ec_cond, ek_block, ec_loop, ec_exit, ec_ret, ec_scope, ek_nil, ek_op, opK_some, regK_some, seqK_normal, seqK_exit, seqK_ret, blockK_normal, blockK_exit, blockK_ret, evOp, vOp, hOpB, hOpU, hOp, hOpT, aAppendG_tab, aWanted, aYielded, opd, putT, closedV, aBin, intOp, sameK, mapO, joinR, hasAddr, boundOf, pushB, aAlloc, Value.cells, lookB, setB, Nat.beq_eq, tm_n_set, tm_get_set, tm_of_n, tm_of_get, tm_tr_set, tm_tr_of, cellV, putF, appR_eq, takeR_eq, dropR_eq, setR_eq, getR_eq, ↓C75, ↓C76, ↓C77, ↓C79, ↓C17, ↓C18, ↓C22, ↓C71, FA24_0, FA24_1, FA24_2, FA24_3, FA24_4, FA24_5, FA24_6, FA24_7, FA24_8, LD3, LD4, LD22, LD27, LDr, LD24, LEN22, IA22, tkc, cellAt, hp1, hl, hmk, h8, h7, h0, h1, hi, c1']
          refine .inl ⟨rfl, m, rfl, i + 1, by omega, hres, ?_⟩
          simp [hp1, tm_get_set, tm_n_set, hl, h8, h7, h0, h1, hw])
  rcases hx with ⟨rfl, hx⟩ | ⟨rfl, hx⟩
  · simp [ec_skip, ec_label, ek_reg, ek_draw, ek_seq, ec_cond, ek_block, ec_loop, ec_exit, ec_ret, ec_scope, ek_nil, ek_op, opK_some, regK_some, seqK_normal, seqK_exit, seqK_ret, blockK_normal, blockK_exit, blockK_ret, evOp, vOp, hOpB, hOpU, hOp, hOpT, aAppendG_tab, aWanted, aYielded, opd, putT, closedV, aBin, intOp, sameK, mapO, joinR, hasAddr, boundOf, pushB, aAlloc, Value.cells, lookB, setB, Nat.beq_eq, tm_n_set, tm_get_set, tm_of_n, tm_of_get, tm_tr_set, tm_tr_of, cellV, putF, appR_eq, takeR_eq, dropR_eq, setR_eq, getR_eq, ↓C75, ↓C76, ↓C77, ↓C79, ↓C17, ↓C18, ↓C22, ↓C71, FA24_0, FA24_1, FA24_2, FA24_3, FA24_4, FA24_5, FA24_6, FA24_7, FA24_8, LD3, LD4, LD22, LD27, LDr, LD24, LEN22, IA22, tkc, cellAt, finF, takeM, resV, hl, hmk, hx]
  · simp [ec_skip, ec_label, ek_reg, ek_draw, ek_seq, ec_cond, ek_block, ec_loop, ec_exit, ec_ret, ec_scope, ek_nil, ek_op, opK_some, regK_some, seqK_normal, seqK_exit, seqK_ret, blockK_normal, blockK_exit, blockK_ret, evOp, vOp, hOpB, hOpU, hOp, hOpT, aAppendG_tab, aWanted, aYielded, opd, putT, closedV, aBin, intOp, sameK, mapO, joinR, hasAddr, boundOf, pushB, aAlloc, Value.cells, lookB, setB, Nat.beq_eq, tm_n_set, tm_get_set, tm_of_n, tm_of_get, tm_tr_set, tm_tr_of, cellV, putF, appR_eq, takeR_eq, dropR_eq, setR_eq, getR_eq, ↓C75, ↓C76, ↓C77, ↓C79, ↓C17, ↓C18, ↓C22, ↓C71, FA24_0, FA24_1, FA24_2, FA24_3, FA24_4, FA24_5, FA24_6, FA24_7, FA24_8, LD3, LD4, LD22, LD27, LDr, LD24, LEN22, IA22, tkc, cellAt, finF, takeM, resV, hl, hmk, hx]

noncomputable def hasG (g : Nat → Int) (n : Nat) (x : Int) : Bool := decide (0 ≤ idxOfG g x n 0)

set_option maxRecDepth 10000 in
set_option maxHeartbeats 8000000 in
theorem contains_ev (call : Value → List Value → AH → Option (Value × AH)) (hb : ∀ (g : Nat → Int) (n : Nat) (x : Int) (H : AH), lookB H.bs 0 = some (.ints g) → call (.func (.func 97) #[] #[]) [sl1 n, .int .i64 x] H = some (.int .i64 (idxOfG g x n 0), H)) (g : Nat → Int) (n : Nat) (x : Int) : ∃ H', evFn (tabT Try.prog) call 300 kpT 85 Try.f85 [sl1 n, .int .i64 x] (hp1 g) = some (.bool (hasG g n x), H') := by
  have hb' := hb g n x
  simp only [sl1] at hb'
  simp only [evFn, Try.f85, hp1, sl1, hasG]
  simp [ec_skip, ec_label, ek_reg, ek_draw, ek_seq, ec_cond, ek_block, ec_loop, ec_exit, ec_ret, ec_scope, ek_nil, ek_op, opK_some, regK_some, seqK_normal, seqK_exit, seqK_ret, blockK_normal, blockK_exit, blockK_ret, evOp, vOp, hOpB, hOpU, hOp, hOpT, aAppendG_tab, aWanted, aYielded, opd, putT, closedV, aBin, intOp, sameK, mapO, joinR, hasAddr, boundOf, pushB, aAlloc, Value.cells, lookB, setB, Nat.beq_eq, tm_n_set, tm_get_set, tm_of_n, tm_of_get, tm_tr_set, tm_tr_of, cellV, putF, appR_eq, takeR_eq, dropR_eq, setR_eq, getR_eq, ↓C75, ↓C76, ↓C77, ↓C79, ↓C17, ↓C18, ↓C22, ↓C71, FA24_0, FA24_1, FA24_2, FA24_3, FA24_4, FA24_5, FA24_6, FA24_7, FA24_8, LD3, LD4, LD22, LD27, LDr, LD24, LEN22, IA22, tkc, cellAt, finF, takeM, resV, hb']

noncomputable def I86 (g : Nat → Int) (n : Nat) (x : Int) (m : Nat) (A : AF) (H : AH) : Prop := ∃ (i : Nat), i + m = n ∧ idxOfG g x m i = idxOfG g x n 0 ∧ A.tm.n = 18 ∧ A.marks = [] ∧ A.tm.get 5 = .int .i64 (i : Int) ∧ A.tm.get 0 = .slice (some ⟨0, 0, some 1⟩) n 0 ∧ A.tm.get 1 = .int .i64 x ∧ H = hp1 g
noncomputable def Q86 (g : Nat → Int) (n : Nat) (x : Int) (y : AX) (A' : AF) (_ : AH) : Prop := A'.tm.n = 18 ∧ A'.marks = [] ∧ ((y = .exit 0 ∧ hasG g n x = false) ∨ (y = .ret ∧ hasG g n x = true ∧ A'.tm.get 4 = .bool true))

set_option maxRecDepth 10000 in
set_option maxHeartbeats 8000000 in
theorem has_ev (call : Value → List Value → AH → Option (Value × AH)) (g : Nat → Int) (n : Nat) (x : Int) (hk : n ≤ 200) : ∃ H', evFn (tabT Try.prog) call 300 kpT 56 Try.f56 [sl1 n, .int .i64 x] (hp1 g) = some (.bool (hasG g n x), H') := by
  simp only [evFn, Try.f56, hp1, sl1]
  simp [ec_skip, ec_label, ek_reg, ek_draw, ek_seq, ec_cond, ek_block, ec_loop, ec_exit, ec_ret, ec_scope, ek_nil, ek_op, opK_some, regK_some, seqK_normal, seqK_exit, seqK_ret, blockK_normal, blockK_exit, blockK_ret, evOp, vOp, hOpB, hOpU, hOp, hOpT, aAppendG_tab, aWanted, aYielded, opd, putT, closedV, aBin, intOp, sameK, mapO, joinR, hasAddr, boundOf, pushB, aAlloc, Value.cells, lookB, setB, Nat.beq_eq, tm_n_set, tm_get_set, tm_of_n, tm_of_get, tm_tr_set, tm_tr_of, cellV, putF, appR_eq, takeR_eq, dropR_eq, setR_eq, getR_eq, ↓C75, ↓C76, ↓C77, ↓C79, ↓C17, ↓C18, ↓C22, ↓C71, FA24_0, FA24_1, FA24_2, FA24_3, FA24_4, FA24_5, FA24_6, FA24_7, FA24_8, LD3, LD4, LD22, LD27, LDr, LD24, LEN22, IA22, tkc, cellAt]
  generalize hr : evLoop _ _ _ _ = r
  obtain ⟨y, A', H', rfl, hl, hmk, hx⟩ := loop_go (Q := Q86 g n x) hr (I86 g n x) n (by omega) ⟨0, by omega, rfl, rfl, rfl, rfl, rfl, rfl, rfl⟩ (by
      clear hr
      rintro m A H ⟨i, him, hres, hl, hmk, h5, h0, h1, rfl⟩
      simp only [runC]
      cases m with
      | zero =>
        have hi : ¬ i < n := by omega
        rw [idxOfG] at hres
        simp [ec_skip, ec_label, ek_reg, ek_draw, ek_seq, ec_cond, ek_block, ec_loop, ec_exit, ec_ret, ec_scope, ek_nil, ek_op, opK_some, regK_some, seqK_normal, seqK_exit, seqK_ret, blockK_normal, blockK_exit, blockK_ret, evOp, vOp, hOpB, hOpU, hOp, hOpT, aAppendG_tab, aWanted, aYielded, opd, putT, closedV, aBin, intOp, sameK, mapO, joinR, hasAddr, boundOf, pushB, aAlloc, Value.cells, lookB, setB, Nat.beq_eq, tm_n_set, tm_get_set, tm_of_n, tm_of_get, tm_tr_set, tm_tr_of, cellV, putF, appR_eq, takeR_eq, dropR_eq, setR_eq, getR_eq, ↓C75, ↓C76, ↓C77, ↓C79, ↓C17, ↓C18, ↓C22, ↓C71, FA24_0, FA24_1, FA24_2, FA24_3, FA24_4, FA24_5, FA24_6, FA24_7, FA24_8, LD3, LD4, LD22, LD27, LDr, LD24, LEN22, IA22, tkc, cellAt, hp1, hl, hmk, h5, h0, h1, hi]
        exact .inr ⟨by simp, by simp [tm_n_set, hl], rfl, .inl ⟨rfl, by simp [hasG, ← hres]⟩⟩
      | succ m =>
        have hi : i < n := by omega
        have hw : wrapI .i64 ((i : Int) + 1) = ((i + 1 : Nat) : Int) := by rw [wrapI_small (by omega) (by omega)]; rfl
        rw [idxOfG] at hres
        by_cases c1 : x = g i
        · have c1' : (g i == x) = true := by simpa using c1.symm
          rw [if_pos c1] at hres
          simp [ec_skip, ec_label, ek_reg, ek_draw, ek_seq, ec_cond, ek_block, ec_loop, ec_exit, ec_ret, ec_scope, ek_nil, ek_op, opK_some, regK_some, seqK_normal, seqK_exit, seqK_ret, blockK_normal, blockK_exit, blockK_ret, evOp, vOp, hOpB, hOpU, hOp, hOpT, aAppendG_tab, aWanted, aYielded, opd, putT, closedV, aBin, intOp, sameK, mapO, joinR, hasAddr, boundOf, pushB, aAlloc, Value.cells, lookB, setB, Nat.beq_eq, tm_n_set, tm_get_set, tm_of_n, tm_of_get, tm_tr_set, tm_tr_of, cellV, putF, appR_eq, takeR_eq, dropR_eq, setR_eq, getR_eq, ↓C75, ↓C76, ↓C77, ↓C79, ↓C17, ↓C18, ↓C22, ↓C71, FA24_0, FA24_1, FA24_2, FA24_3, FA24_4, FA24_5, FA24_6, FA24_7, FA24_8, LD3, LD4, LD22, LD27, LDr, LD24, LEN22, IA22, tkc, cellAt, hp1, hl, hmk, h5, h0, h1, hi, c1']
          exact .inr ⟨by simp, by simp [tm_n_set, hl], rfl, .inr ⟨rfl, by simp [hasG, ← hres], by simp [tm_get_set, tm_n_set, hl]⟩⟩
        · have c1' : (g i == x) = false := by simpa using fun e => c1 (Eq.symm e)
          rw [if_neg c1] at hres
          simp [ec_skip, ec_label, ek_reg, ek_draw, ek_seq, ec_cond, ek_block, ec_loop, ec_exit, ec_ret, ec_scope, ek_nil, ek_op, opK_some, regK_some, seqK_normal, seqK_exit, seqK_ret, blockK_normal, blockK_exit, blockK_ret, evOp, vOp, hOpB, hOpU, hOp, hOpT, aAppendG_tab, aWanted, aYielded, opd, putT, closedV, aBin, intOp, sameK, mapO, joinR, hasAddr, boundOf, pushB, aAlloc, Value.cells, lookB, setB, Nat.beq_eq, tm_n_set, tm_get_set, tm_of_n, tm_of_get, tm_tr_set, tm_tr_of, cellV, putF, appR_eq, takeR_eq, dropR_eq, setR_eq, getR_eq, ↓C75, ↓C76, ↓C77, ↓C79, ↓C17, ↓C18, ↓C22, ↓C71, FA24_0, FA24_1, FA24_2, FA24_3, FA24_4, FA24_5, FA24_6, FA24_7, FA24_8, LD3, LD4, LD22, LD27, LDr, LD24, LEN22, IA22, tkc, cellAt, hp1, hl, hmk, h5, h0, h1, hi, c1']
          refine .inl ⟨rfl, m, rfl, i + 1, by omega, hres, ?_⟩
          simp [hp1, tm_get_set, tm_n_set, hl, h5, h0, h1, hw])
  rcases hx with ⟨rfl, hx⟩ | ⟨rfl, hx, h4⟩
  · simp [ec_skip, ec_label, ek_reg, ek_draw, ek_seq, ec_cond, ek_block, ec_loop, ec_exit, ec_ret, ec_scope, ek_nil, ek_op, opK_some, regK_some, seqK_normal, seqK_exit, seqK_ret, blockK_normal, blockK_exit, blockK_ret, evOp, vOp, hOpB, hOpU, hOp, hOpT, aAppendG_tab, aWanted, aYielded, opd, putT, closedV, aBin, intOp, sameK, mapO, joinR, hasAddr, boundOf, pushB, aAlloc, Value.cells, lookB, setB, Nat.beq_eq, tm_n_set, tm_get_set, tm_of_n, tm_of_get, tm_tr_set, tm_tr_of, cellV, putF, appR_eq, takeR_eq, dropR_eq, setR_eq, getR_eq, ↓C75, ↓C76, ↓C77, ↓C79, ↓C17, ↓C18, ↓C22, ↓C71, FA24_0, FA24_1, FA24_2, FA24_3, FA24_4, FA24_5, FA24_6, FA24_7, FA24_8, LD3, LD4, LD22, LD27, LDr, LD24, LEN22, IA22, tkc, cellAt, finF, takeM, resV, hl, hmk, hx]
  · simp [ec_skip, ec_label, ek_reg, ek_draw, ek_seq, ec_cond, ek_block, ec_loop, ec_exit, ec_ret, ec_scope, ek_nil, ek_op, opK_some, regK_some, seqK_normal, seqK_exit, seqK_ret, blockK_normal, blockK_exit, blockK_ret, evOp, vOp, hOpB, hOpU, hOp, hOpT, aAppendG_tab, aWanted, aYielded, opd, putT, closedV, aBin, intOp, sameK, mapO, joinR, hasAddr, boundOf, pushB, aAlloc, Value.cells, lookB, setB, Nat.beq_eq, tm_n_set, tm_get_set, tm_of_n, tm_of_get, tm_tr_set, tm_tr_of, cellV, putF, appR_eq, takeR_eq, dropR_eq, setR_eq, getR_eq, ↓C75, ↓C76, ↓C77, ↓C79, ↓C17, ↓C18, ↓C22, ↓C71, FA24_0, FA24_1, FA24_2, FA24_3, FA24_4, FA24_5, FA24_6, FA24_7, FA24_8, LD3, LD4, LD22, LD27, LDr, LD24, LEN22, IA22, tkc, cellAt, finF, takeM, resV, hl, hmk, hx, h4]

theorem LD84 (H : AH) (i off : Nat) : aLoad (tabT Try.prog) H 66 (.pointer (some ⟨i, off, none⟩)) = match lookB H.bs i with | some (.cells _ cs) => (takeCells cs off 2).map (fun l => .agg l.toArray) | _ => none := lda (by kernel_rfl) H i off
theorem ST84 (H : AH) (i off : Nat) (v : Value) : aStore (tabT Try.prog) H 66 (.pointer (some ⟨i, off, none⟩)) v = match lookB H.bs i with
    | some (.cells false cs) => if Nat.beq v.cells.toList.length 2 && Nat.ble (off + v.cells.toList.length) cs.length && v.cells.toList.all cellV then some { H with bs := setB H.bs i (.cells false (putF cs off v.cells.toList)) } else none
    | _ => none := sti (by kernel_rfl) H i off v
theorem AL84 {call : Value → List Value → AH → Option (Value × AH)} {g : Operand → Option Value} {H : AH} {d : Option Tmp} {t : TypeId} {p : String} {a : Array Edge} {gd : Option (Nat × Bool)} : evOp (tabT Try.prog) call ⟨d, .alloc 66, t, p, a, gd⟩ g H = some (.pointer (some ⟨H.next, 0, none⟩), ⟨H.next + 1, (H.next, .cells false [.int .i64 0, .bool false]) :: H.bs⟩) :=
  evOp_evO.trans (eo_alloc (cs := [.int .i64 0, .bool false]) (by kernel_rfl))
theorem BD84 (a : Int) (b : Bool) : aBuild (tabT Try.prog) 66 [(0, .int .i64 a), (1, .bool b)] = some (.agg #[.int .i64 a, .bool b]) := by kernel_rfl
theorem BD84k (a : Int) : aBuild (tabT Try.prog) 66 [(0, .int .i64 a)] = some (.agg #[.int .i64 a, .bool false]) := by kernel_rfl
/-- The number of the face of a tile, and whether it is red. -/
noncomputable def SV.faceK (s : SV) (t : Int) : Int := if s.plain * s.c ≤ t then s.plain + (t - s.plain * s.c) else t.tdiv s.c
noncomputable def SV.faceR (s : SV) (t : Int) : Bool := !decide (s.plain * s.c ≤ t) && (decide (t.tmod s.c = 0) && hasG s.h s.k (t.tdiv s.c))
noncomputable def SV.inB (s : SV) (t : Int) : Bool := decide (0 ≤ t) && decide (t < s.rsize)
noncomputable def SV.kindOf (s : SV) (t : Int) : Int := if s.inB t then s.faceK t else -1
noncomputable def SV.redOf (s : SV) (t : Int) : Bool := s.inB t && s.faceR t
noncomputable def faceV (k : Int) (r : Bool) : Value := .agg #[.int .i64 k, .bool r]

structure SV.Tile (s : SV) (t : Int) : Prop where
  c : 1 ≤ s.c ∧ s.c ≤ 4
  p : 0 ≤ s.plain ∧ s.plain ≤ 34
  a : 0 ≤ s.plain * s.c ∧ s.plain * s.c ≤ 136
  z : s.size = s.plain * s.c + s.f ∧ 0 ≤ s.f ∧ s.f ≤ 8
  t : 0 ≤ t ∧ t < s.size

theorem size_bounds {s : SV} (h : s.err = 0) : (1 ≤ s.c ∧ s.c ≤ 4) ∧ (0 ≤ s.plain ∧ s.plain ≤ 34) ∧ (0 ≤ s.plain * s.c ∧ s.plain * s.c ≤ 136) ∧ (s.size = s.plain * s.c + s.f ∧ 0 ≤ s.f ∧ s.f ≤ 8) := by
  have hs := small_of_err h
  obtain ⟨p0, p1, _⟩ := plain_small hs
  have hf := hs.f
  have hc : 1 ≤ s.c ∧ s.c ≤ 4 := by
    obtain ⟨_, h⟩ := firstE_step (m := 11) (i := 0) h (by simp [ruleE])
    obtain ⟨_, h⟩ := firstE_step (m := 10) (i := 1) h (by simp [ruleE])
    obtain ⟨_, h⟩ := firstE_step (m := 9) (i := 2) h (by simp [ruleE])
    obtain ⟨_, h⟩ := firstE_step (m := 8) (i := 3) h (by simp [ruleE])
    obtain ⟨_, h⟩ := firstE_step (m := 7) (i := 4) h (by simp [ruleE])
    obtain ⟨_, h⟩ := firstE_step (m := 6) (i := 5) h (by simp [ruleE])
    obtain ⟨c6, _⟩ := firstE_step (m := 5) (i := 6) h (by simp [ruleE])
    simp only [ruleB] at c6
    exact btw_iff.1 c6
  have ha : 0 ≤ s.plain * s.c ∧ s.plain * s.c ≤ 136 := by
    rcases (by omega : s.c = 1 ∨ s.c = 2 ∨ s.c = 3 ∨ s.c = 4) with e | e | e | e <;> rw [e] <;> omega
  refine ⟨hc, ⟨p0, p1⟩, ha, ?_, hf⟩
  unfold SV.size
  rw [wrapI_small (n := s.plain * s.c) (by omega) (by omega), wrapI_small (by omega) (by omega)]

theorem rsize_bounds (s : SV) : 0 ≤ s.rsize ∧ s.rsize ≤ 144 := by
  unfold SV.rsize
  split
  · rename_i h
    obtain ⟨_, _, ha, hz, hf⟩ := size_bounds h
    omega
  · omega

theorem tile_of {s : SV} {t : Int} (h : s.inB t = true) : s.err = 0 ∧ s.Tile t := by
  simp only [SV.inB, Bool.and_eq_true, decide_eq_true_eq] at h
  obtain ⟨h0, h1⟩ := h
  unfold SV.rsize at h1
  split at h1
  · rename_i he
    obtain ⟨hc, hp, ha, hz⟩ := size_bounds he
    exact ⟨he, hc, hp, ha, hz, h0, h1⟩
  · omega

theorem tdiv_small {t c : Int} (h0 : 0 ≤ t) (h1 : t < 1000) (hc : 1 ≤ c) : wrapI .i64 (t.tdiv c) = t.tdiv c ∧ 0 ≤ t.tdiv c := by
  have a : 0 ≤ t.tdiv c := Int.tdiv_nonneg h0 (by omega)
  have b : t.tdiv c ≤ t := Int.tdiv_le_self _ h0
  exact ⟨wrapI_small (by omega) (by omega), a⟩

set_option maxRecDepth 10000 in
set_option maxHeartbeats 8000000 in
theorem face_ev (call : Value → List Value → AH → Option (Value × AH)) (s : SV) (t : Int) (h75 : ∀ (H : AH), lookB H.bs 0 = some (.ints s.g) → lookB H.bs 1 = some (.ints s.h) → call (.func (.func 84) #[] #[]) [s.val] H = some (.int .i64 s.plain, H)) (h110 : ∀ (i n : Nat) (g : Nat → Int) (x : Int) (H : AH), lookB H.bs i = some (.ints g) → call (.func (.func 85) #[] #[]) [.slice (some ⟨i, 0, some 1⟩) n 0, .int .i64 x] H = some (.bool (hasG g n x), H)) (hT : s.Tile t) :
    ∃ H', evFn (tabT Try.prog) call 300 kpT 53 Try.f53 [s.val, .int .i64 t] s.hp = some (faceV (s.faceK t) (s.faceR t), H') := by
  obtain ⟨hc, hp, ha, hz, ht⟩ := hT
  obtain ⟨w4, _⟩ := tdiv_small (c := s.c) (t := t) (by omega) (by omega) hc.1
  have w1 : wrapI .i64 (s.plain * s.c) = s.plain * s.c := wrapI_small (by omega) (by omega)
  have w2 : wrapI .i64 (t - s.plain * s.c) = t - s.plain * s.c := wrapI_small (by omega) (by omega)
  have w3 : wrapI .i64 (s.plain + (t - s.plain * s.c)) = s.plain + (t - s.plain * s.c) := wrapI_small (by omega) (by omega)
  have c0 : ¬ s.c = 0 := by omega
  have h110' := fun x H => h110 1 s.k s.h x H
  unfold SV.faceK SV.faceR faceV
  simp only [SV.val] at h75
  by_cases c1 : s.plain * s.c ≤ t
  · have c1' : ¬ t < s.plain * s.c := by omega
    simp only [evFn, Try.f53, SV.val, SV.hp]
    simp [ec_skip, ec_label, ek_reg, ek_draw, ek_seq, ec_cond, ek_block, ec_loop, ec_exit, ec_ret, ec_scope, ek_nil, ek_op, opK_some, regK_some, seqK_normal, seqK_exit, seqK_ret, blockK_normal, blockK_exit, blockK_ret, evOp, vOp, hOpB, hOpU, hOp, hOpT, aAppendG_tab, aWanted, aYielded, opd, putT, closedV, aBin, intOp, sameK, mapO, joinR, hasAddr, boundOf, pushB, aAlloc, Value.cells, lookB, setB, Nat.beq_eq, tm_n_set, tm_get_set, tm_of_n, tm_of_get, tm_tr_set, tm_tr_of, cellV, putF, appR_eq, takeR_eq, dropR_eq, setR_eq, getR_eq, ↓C75, ↓C76, ↓C77, ↓C79, ↓C17, ↓C18, ↓C22, ↓C71, FA24_0, FA24_1, FA24_2, FA24_3, FA24_4, FA24_5, FA24_6, FA24_7, FA24_8, LD3, LD4, LD22, LD27, LDr, LD24, LEN22, IA22, tkc, cellAt, finF, takeM, resV, h75, h110', ↓AL84, ST84, LD84, BD84, BD84k, partsO, setB, putCells, w1, w2, w3, w4, c0, c1, c1', cellV]
  · have c1' : t < s.plain * s.c := by omega
    by_cases c2 : t.tmod s.c = 0
    · have c2' : (t.tmod s.c == 0) = true := by simpa using c2
      simp only [evFn, Try.f53, SV.val, SV.hp]
      simp [ec_skip, ec_label, ek_reg, ek_draw, ek_seq, ec_cond, ek_block, ec_loop, ec_exit, ec_ret, ec_scope, ek_nil, ek_op, opK_some, regK_some, seqK_normal, seqK_exit, seqK_ret, blockK_normal, blockK_exit, blockK_ret, evOp, vOp, hOpB, hOpU, hOp, hOpT, aAppendG_tab, aWanted, aYielded, opd, putT, closedV, aBin, intOp, sameK, mapO, joinR, hasAddr, boundOf, pushB, aAlloc, Value.cells, lookB, setB, Nat.beq_eq, tm_n_set, tm_get_set, tm_of_n, tm_of_get, tm_tr_set, tm_tr_of, cellV, putF, appR_eq, takeR_eq, dropR_eq, setR_eq, getR_eq, ↓C75, ↓C76, ↓C77, ↓C79, ↓C17, ↓C18, ↓C22, ↓C71, FA24_0, FA24_1, FA24_2, FA24_3, FA24_4, FA24_5, FA24_6, FA24_7, FA24_8, LD3, LD4, LD22, LD27, LDr, LD24, LEN22, IA22, tkc, cellAt, finF, takeM, resV, h75, h110', ↓AL84, ST84, LD84, BD84, BD84k, partsO, setB, putCells, w1, w2, w3, w4, c0, c1, c1', c2, c2', cellV]
    · have c2' : (t.tmod s.c == 0) = false := by simpa using c2
      simp only [evFn, Try.f53, SV.val, SV.hp]
      simp [ec_skip, ec_label, ek_reg, ek_draw, ek_seq, ec_cond, ek_block, ec_loop, ec_exit, ec_ret, ec_scope, ek_nil, ek_op, opK_some, regK_some, seqK_normal, seqK_exit, seqK_ret, blockK_normal, blockK_exit, blockK_ret, evOp, vOp, hOpB, hOpU, hOp, hOpT, aAppendG_tab, aWanted, aYielded, opd, putT, closedV, aBin, intOp, sameK, mapO, joinR, hasAddr, boundOf, pushB, aAlloc, Value.cells, lookB, setB, Nat.beq_eq, tm_n_set, tm_get_set, tm_of_n, tm_of_get, tm_tr_set, tm_tr_of, cellV, putF, appR_eq, takeR_eq, dropR_eq, setR_eq, getR_eq, ↓C75, ↓C76, ↓C77, ↓C79, ↓C17, ↓C18, ↓C22, ↓C71, FA24_0, FA24_1, FA24_2, FA24_3, FA24_4, FA24_5, FA24_6, FA24_7, FA24_8, LD3, LD4, LD22, LD27, LDr, LD24, LEN22, IA22, tkc, cellAt, finF, takeM, resV, h75, h110', ↓AL84, ST84, LD84, BD84, BD84k, partsO, setB, putCells, w1, w2, w3, w4, c0, c1, c1', c2, c2', cellV]

set_option maxRecDepth 10000 in
set_option maxHeartbeats 8000000 in
theorem rkind_ev (call : Value → List Value → AH → Option (Value × AH)) (s : SV) (t : Int) (h22 : ∀ (H : AH), lookB H.bs 0 = some (.ints s.g) → lookB H.bs 1 = some (.ints s.h) → call (.func (.func 54) #[] #[]) [s.val] H = some (.int .i64 s.rsize, H)) (h79 : ∀ (H : AH), lookB H.bs 0 = some (.ints s.g) → lookB H.bs 1 = some (.ints s.h) → call (.func (.func 55) #[] #[]) [s.val] H = some (.int .i64 s.plain, H)) :
    ∃ H', evFn (tabT Try.prog) call 300 kpT 17 Try.f17 [s.val, .int .i64 t] s.hp = some (.int .i64 (s.kindOf t), H') := by
  unfold SV.kindOf
  simp only [SV.val] at h22 h79
  by_cases c0 : t < 0
  · have hb : s.inB t = false := by simp [SV.inB]; omega
    simp only [evFn, Try.f17, SV.val, SV.hp]
    simp [ec_skip, ec_label, ek_reg, ek_draw, ek_seq, ec_cond, ek_block, ec_loop, ec_exit, ec_ret, ec_scope, ek_nil, ek_op, opK_some, regK_some, seqK_normal, seqK_exit, seqK_ret, blockK_normal, blockK_exit, blockK_ret, evOp, vOp, hOpB, hOpU, hOp, hOpT, aAppendG_tab, aWanted, aYielded, opd, putT, closedV, aBin, intOp, sameK, mapO, joinR, hasAddr, boundOf, pushB, aAlloc, Value.cells, lookB, setB, Nat.beq_eq, tm_n_set, tm_get_set, tm_of_n, tm_of_get, tm_tr_set, tm_tr_of, cellV, putF, appR_eq, takeR_eq, dropR_eq, setR_eq, getR_eq, ↓C75, ↓C76, ↓C77, ↓C79, ↓C17, ↓C18, ↓C22, ↓C71, FA24_0, FA24_1, FA24_2, FA24_3, FA24_4, FA24_5, FA24_6, FA24_7, FA24_8, LD3, LD4, LD22, LD27, LDr, LD24, LEN22, IA22, tkc, cellAt, finF, takeM, resV, h22, c0, hb]
  have c0' : 0 ≤ t := by omega
  by_cases c1 : s.rsize ≤ t
  · have hb : s.inB t = false := by simp [SV.inB]; omega
    simp only [evFn, Try.f17, SV.val, SV.hp]
    simp [ec_skip, ec_label, ek_reg, ek_draw, ek_seq, ec_cond, ek_block, ec_loop, ec_exit, ec_ret, ec_scope, ek_nil, ek_op, opK_some, regK_some, seqK_normal, seqK_exit, seqK_ret, blockK_normal, blockK_exit, blockK_ret, evOp, vOp, hOpB, hOpU, hOp, hOpT, aAppendG_tab, aWanted, aYielded, opd, putT, closedV, aBin, intOp, sameK, mapO, joinR, hasAddr, boundOf, pushB, aAlloc, Value.cells, lookB, setB, Nat.beq_eq, tm_n_set, tm_get_set, tm_of_n, tm_of_get, tm_tr_set, tm_tr_of, cellV, putF, appR_eq, takeR_eq, dropR_eq, setR_eq, getR_eq, ↓C75, ↓C76, ↓C77, ↓C79, ↓C17, ↓C18, ↓C22, ↓C71, FA24_0, FA24_1, FA24_2, FA24_3, FA24_4, FA24_5, FA24_6, FA24_7, FA24_8, LD3, LD4, LD22, LD27, LDr, LD24, LEN22, IA22, tkc, cellAt, finF, takeM, resV, h22, c0, c0', c1, hb]
  have c1' : t < s.rsize := by omega
  have hb : s.inB t = true := by simp [SV.inB]; omega
  obtain ⟨_, hc, hp, ha, hz, ht⟩ := tile_of hb
  obtain ⟨w4, _⟩ := tdiv_small (c := s.c) (t := t) (by omega) (by omega) hc.1
  have w1 : wrapI .i64 (s.plain * s.c) = s.plain * s.c := wrapI_small (by omega) (by omega)
  have w2 : wrapI .i64 (s.plain + t) = s.plain + t := wrapI_small (by omega) (by omega)
  have w3 : wrapI .i64 (s.plain + t - s.plain * s.c) = s.plain + (t - s.plain * s.c) := by rw [wrapI_small (by omega) (by omega)]; omega
  have d0 : ¬ s.c = 0 := by omega
  unfold SV.faceK
  by_cases c2 : s.plain * s.c ≤ t
  · simp only [evFn, Try.f17, SV.val, SV.hp]
    simp [ec_skip, ec_label, ek_reg, ek_draw, ek_seq, ec_cond, ek_block, ec_loop, ec_exit, ec_ret, ec_scope, ek_nil, ek_op, opK_some, regK_some, seqK_normal, seqK_exit, seqK_ret, blockK_normal, blockK_exit, blockK_ret, evOp, vOp, hOpB, hOpU, hOp, hOpT, aAppendG_tab, aWanted, aYielded, opd, putT, closedV, aBin, intOp, sameK, mapO, joinR, hasAddr, boundOf, pushB, aAlloc, Value.cells, lookB, setB, Nat.beq_eq, tm_n_set, tm_get_set, tm_of_n, tm_of_get, tm_tr_set, tm_tr_of, cellV, putF, appR_eq, takeR_eq, dropR_eq, setR_eq, getR_eq, ↓C75, ↓C76, ↓C77, ↓C79, ↓C17, ↓C18, ↓C22, ↓C71, FA24_0, FA24_1, FA24_2, FA24_3, FA24_4, FA24_5, FA24_6, FA24_7, FA24_8, LD3, LD4, LD22, LD27, LDr, LD24, LEN22, IA22, tkc, cellAt, finF, takeM, resV, h22, h79, c0, c0', c1, c1', hb, w1, w2, w3, w4, d0, c2]
  · have c2' : t < s.plain * s.c := by omega
    simp only [evFn, Try.f17, SV.val, SV.hp]
    simp [ec_skip, ec_label, ek_reg, ek_draw, ek_seq, ec_cond, ek_block, ec_loop, ec_exit, ec_ret, ec_scope, ek_nil, ek_op, opK_some, regK_some, seqK_normal, seqK_exit, seqK_ret, blockK_normal, blockK_exit, blockK_ret, evOp, vOp, hOpB, hOpU, hOp, hOpT, aAppendG_tab, aWanted, aYielded, opd, putT, closedV, aBin, intOp, sameK, mapO, joinR, hasAddr, boundOf, pushB, aAlloc, Value.cells, lookB, setB, Nat.beq_eq, tm_n_set, tm_get_set, tm_of_n, tm_of_get, tm_tr_set, tm_tr_of, cellV, putF, appR_eq, takeR_eq, dropR_eq, setR_eq, getR_eq, ↓C75, ↓C76, ↓C77, ↓C79, ↓C17, ↓C18, ↓C22, ↓C71, FA24_0, FA24_1, FA24_2, FA24_3, FA24_4, FA24_5, FA24_6, FA24_7, FA24_8, LD3, LD4, LD22, LD27, LDr, LD24, LEN22, IA22, tkc, cellAt, finF, takeM, resV, h22, h79, c0, c0', c1, c1', hb, w1, w2, w3, w4, d0, c2, c2']

set_option maxRecDepth 10000 in
set_option maxHeartbeats 8000000 in
theorem rred_ev (call : Value → List Value → AH → Option (Value × AH)) (s : SV) (t : Int) (h29 : ∀ (H : AH), lookB H.bs 0 = some (.ints s.g) → lookB H.bs 1 = some (.ints s.h) → call (.func (.func 17) #[] #[]) [s.val, .int .i64 t] H = some (.int .i64 (s.kindOf t), H)) (h79 : ∀ (H : AH), lookB H.bs 0 = some (.ints s.g) → lookB H.bs 1 = some (.ints s.h) → call (.func (.func 55) #[] #[]) [s.val] H = some (.int .i64 s.plain, H)) (h86 : ∀ (i n : Nat) (g : Nat → Int) (x : Int) (H : AH), lookB H.bs i = some (.ints g) → call (.func (.func 56) #[] #[]) [.slice (some ⟨i, 0, some 1⟩) n 0, .int .i64 x] H = some (.bool (hasG g n x), H)) :
    ∃ H', evFn (tabT Try.prog) call 300 kpT 19 Try.f19 [s.val, .int .i64 t] s.hp = some (.bool (s.redOf t), H') := by
  have h86' := fun x H => h86 1 s.k s.h x H
  simp only [SV.val] at h29 h79
  unfold SV.redOf
  cases hb : s.inB t with
  | false =>
    have hk : s.kindOf t = -1 := by simp [SV.kindOf, hb]
    simp only [hk] at h29
    simp only [evFn, Try.f19, SV.val, SV.hp]
    simp [ec_skip, ec_label, ek_reg, ek_draw, ek_seq, ec_cond, ek_block, ec_loop, ec_exit, ec_ret, ec_scope, ek_nil, ek_op, opK_some, regK_some, seqK_normal, seqK_exit, seqK_ret, blockK_normal, blockK_exit, blockK_ret, evOp, vOp, hOpB, hOpU, hOp, hOpT, aAppendG_tab, aWanted, aYielded, opd, putT, closedV, aBin, intOp, sameK, mapO, joinR, hasAddr, boundOf, pushB, aAlloc, Value.cells, lookB, setB, Nat.beq_eq, tm_n_set, tm_get_set, tm_of_n, tm_of_get, tm_tr_set, tm_tr_of, cellV, putF, appR_eq, takeR_eq, dropR_eq, setR_eq, getR_eq, ↓C75, ↓C76, ↓C77, ↓C79, ↓C17, ↓C18, ↓C22, ↓C71, FA24_0, FA24_1, FA24_2, FA24_3, FA24_4, FA24_5, FA24_6, FA24_7, FA24_8, LD3, LD4, LD22, LD27, LDr, LD24, LEN22, IA22, tkc, cellAt, finF, takeM, resV, h29, h79]
  | true =>
    obtain ⟨_, hc, hp, ha, hz, ht⟩ := tile_of hb
    obtain ⟨w4, k0⟩ := tdiv_small (c := s.c) (t := t) (by omega) (by omega) hc.1
    have d0 : ¬ s.c = 0 := by omega
    by_cases c2 : s.plain * s.c ≤ t
    · have hk : s.kindOf t = s.plain + (t - s.plain * s.c) := by simp [SV.kindOf, hb, SV.faceK, c2]
      have e1 : 0 ≤ s.plain + (t - s.plain * s.c) := by omega
      have e2 : ¬ s.plain + (t - s.plain * s.c) < s.plain := by omega
      have hr : s.faceR t = false := by simp [SV.faceR, c2]
      simp only [hk] at h29
      simp only [evFn, Try.f19, SV.val, SV.hp, hr]
      generalize s.plain + (t - s.plain * s.c) = z at *
      simp [ec_skip, ec_label, ek_reg, ek_draw, ek_seq, ec_cond, ek_block, ec_loop, ec_exit, ec_ret, ec_scope, ek_nil, ek_op, opK_some, regK_some, seqK_normal, seqK_exit, seqK_ret, blockK_normal, blockK_exit, blockK_ret, evOp, vOp, hOpB, hOpU, hOp, hOpT, aAppendG_tab, aWanted, aYielded, opd, putT, closedV, aBin, intOp, sameK, mapO, joinR, hasAddr, boundOf, pushB, aAlloc, Value.cells, lookB, setB, Nat.beq_eq, tm_n_set, tm_get_set, tm_of_n, tm_of_get, tm_tr_set, tm_tr_of, cellV, putF, appR_eq, takeR_eq, dropR_eq, setR_eq, getR_eq, ↓C75, ↓C76, ↓C77, ↓C79, ↓C17, ↓C18, ↓C22, ↓C71, FA24_0, FA24_1, FA24_2, FA24_3, FA24_4, FA24_5, FA24_6, FA24_7, FA24_8, LD3, LD4, LD22, LD27, LDr, LD24, LEN22, IA22, tkc, cellAt, finF, takeM, resV, h29, h79, e1, e2]
    · have hk : s.kindOf t = t.tdiv s.c := by simp [SV.kindOf, hb, SV.faceK, c2]
      have e2 : t.tdiv s.c < s.plain := by
        have h1 : t < s.plain * s.c := by omega
        have h2 := Int.mul_tdiv_add_tmod t s.c
        have h3 : 0 ≤ t.tmod s.c := Int.tmod_nonneg _ (by omega)
        have h4 : s.c * t.tdiv s.c < s.c * s.plain := by
          have : s.plain * s.c = s.c * s.plain := Int.mul_comm _ _
          omega
        exact Int.lt_of_mul_lt_mul_left h4 (by omega)
      have hr : s.faceR t = (decide (t.tmod s.c = 0) && hasG s.h s.k (t.tdiv s.c)) := by simp [SV.faceR, c2]
      simp only [hk] at h29
      rw [hr]
      by_cases c3 : t.tmod s.c = 0
      · have c3' : (t.tmod s.c == 0) = true := by simpa using c3
        simp only [evFn, Try.f19, SV.val, SV.hp]
        simp [ec_skip, ec_label, ek_reg, ek_draw, ek_seq, ec_cond, ek_block, ec_loop, ec_exit, ec_ret, ec_scope, ek_nil, ek_op, opK_some, regK_some, seqK_normal, seqK_exit, seqK_ret, blockK_normal, blockK_exit, blockK_ret, evOp, vOp, hOpB, hOpU, hOp, hOpT, aAppendG_tab, aWanted, aYielded, opd, putT, closedV, aBin, intOp, sameK, mapO, joinR, hasAddr, boundOf, pushB, aAlloc, Value.cells, lookB, setB, Nat.beq_eq, tm_n_set, tm_get_set, tm_of_n, tm_of_get, tm_tr_set, tm_tr_of, cellV, putF, appR_eq, takeR_eq, dropR_eq, setR_eq, getR_eq, ↓C75, ↓C76, ↓C77, ↓C79, ↓C17, ↓C18, ↓C22, ↓C71, FA24_0, FA24_1, FA24_2, FA24_3, FA24_4, FA24_5, FA24_6, FA24_7, FA24_8, LD3, LD4, LD22, LD27, LDr, LD24, LEN22, IA22, tkc, cellAt, finF, takeM, resV, h29, h79, k0, e2, d0, c3, c3', h86']
      · have c3' : (t.tmod s.c == 0) = false := by simpa using c3
        simp only [evFn, Try.f19, SV.val, SV.hp]
        simp [ec_skip, ec_label, ek_reg, ek_draw, ek_seq, ec_cond, ek_block, ec_loop, ec_exit, ec_ret, ec_scope, ek_nil, ek_op, opK_some, regK_some, seqK_normal, seqK_exit, seqK_ret, blockK_normal, blockK_exit, blockK_ret, evOp, vOp, hOpB, hOpU, hOp, hOpT, aAppendG_tab, aWanted, aYielded, opd, putT, closedV, aBin, intOp, sameK, mapO, joinR, hasAddr, boundOf, pushB, aAlloc, Value.cells, lookB, setB, Nat.beq_eq, tm_n_set, tm_get_set, tm_of_n, tm_of_get, tm_tr_set, tm_tr_of, cellV, putF, appR_eq, takeR_eq, dropR_eq, setR_eq, getR_eq, ↓C75, ↓C76, ↓C77, ↓C79, ↓C17, ↓C18, ↓C22, ↓C71, FA24_0, FA24_1, FA24_2, FA24_3, FA24_4, FA24_5, FA24_6, FA24_7, FA24_8, LD3, LD4, LD22, LD27, LDr, LD24, LEN22, IA22, tkc, cellAt, finF, takeM, resV, h29, h79, k0, e2, d0, c3, c3', h86']



end

section
set_option linter.unusedSimpArgs false
set_option linter.unusedVariables false


end

section
set_option linter.unusedSimpArgs false
set_option linter.unusedVariables false


noncomputable def suitRows (g : Nat → Int) : Nat → Nat → List (Int × Nat)
  | 0, _ => []
  | k + 1, i => ((i : Int), (g i).toNat) :: suitRows g k (i + 1)

noncomputable def SV.tail (s : SV) : List (Int × Nat) := [(-1, s.w.toNat), (-2, s.d.toNat), (-3, s.f.toNat)]
noncomputable def SV.rows (s : SV) : List (Int × Nat) := suitRows s.g s.n 0 ++ s.tail
noncomputable def SV.boxL (s : SV) : List Value := [.int .i64 s.p, .slice (some ⟨0, 0, some 1⟩) s.n 0, .int .i64 s.w, .int .i64 s.d, .int .i64 s.f, .int .i64 s.c, .int .i64 s.m, .int .i64 s.de, .slice (some ⟨1, 0, some 1⟩) s.k 0]

end

section
set_option linter.unusedSimpArgs false
set_option linter.unusedVariables false

def rfOf : Code → Option (Code × Code)
  | .rangeFunc _ _ a b => some (a, b)
  | .seq x y => match rfOf x with
    | some r => some r
    | none => rfOf y
  | .block _ c => rfOf c
  | _ => none

/-- The row of a number: which row, which place in it, how long it is. -/
noncomputable def findRows : List (Int × Nat) → Int → Int → Option (Int × Int × Int)
  | [], _, _ => none
  | (su, q) :: r, c, kind => if c ≤ kind ∧ kind < c + q then some (su, kind - c, q) else findRows r (c + q) kind

/-- What find answers. -/
noncomputable def SV.find (s : SV) (kind : Int) : Option (Int × Int × Int) := if s.err = 0 then findRows s.rows 0 kind else none
end

section
set_option linter.unusedSimpArgs false
set_option linter.unusedVariables false

end

section
set_option linter.unusedSimpArgs false
set_option linter.unusedVariables false

/-- How many kinds a row has, by the row's number. -/
noncomputable def SV.many (s : SV) (su : Int) : Int := if su = -1 then s.w else if su = -2 then s.d else if su = -3 then s.f else s.g su.toNat
end

section
set_option linter.unusedSimpArgs false
set_option linter.unusedVariables false

noncomputable def seeL (bs : List (Nat × ABlk)) : Value → Option (Nat × (Nat → Int))
  | .slice none 0 0 => some (0, fun _ => 0)
  | .slice (some ⟨a, 0, none⟩) n 1 => match lookB bs a with
    | some (.cells _ cs) => if okC cs n then some (n, gi cs) else none
    | _ => none
  | _ => none
/-- A set whose first list is not nil. -/
noncomputable def seeC (v : Value) (bs : List (Nat × ABlk)) : Option SV :=
  match v with
  | .agg ⟨[.int .i64 p, .slice (some a) n z, .int .i64 w, .int .i64 d, .int .i64 f, .int .i64 c, .int .i64 m, .int .i64 de, u8]⟩ =>
    match seeL bs (.slice (some a) n z), seeL bs u8 with
    | some (n, g), some (k, h) => if Nat.ble n 200 && Nat.ble k 200 then some ⟨p, n, g, w, d, f, c, m, de, k, h⟩ else none
    | _, _ => none
  | _ => none
noncomputable def setH (f : FuncId) (ans : SV → List Value → Option Value) : Value → List Value → AH → Option (Value × AH) := fun fv args H =>
  match fv, args with
  | .func (.func f') ⟨[]⟩ ⟨[]⟩, v :: rest =>
    if Nat.beq f' f && rest.all (closedV 3) then
      match seeC v H.bs with
      | some s => match ans s rest with
        | some r => some (r, H)
        | none => none
      | none => none
    else none
  | _, _ => none

theorem seeL_spec {bs : List (Nat × ABlk)} {u : Value} {n : Nat} {g : Nat → Int} (h : seeL bs u = some (n, g)) :
    (u = .slice none 0 0 ∧ n = 0) ∨ ∃ a ro cs, u = .slice (some ⟨a, 0, none⟩) n 1 ∧ lookB bs a = some (.cells ro cs) ∧ okC cs n = true ∧ g = gi cs := by
  unfold seeL at h
  split at h
  · cases h; exact .inl ⟨rfl, rfl⟩
  · split at h
    · rename_i ro cs hl
      split at h
      · rename_i hc
        cases h
        exact .inr ⟨_, ro, cs, rfl, hl, hc, rfl⟩
      · cases h
    · cases h
  · cases h

/-- A list in cells, as a list that is told by a function. -/
theorem list_rel {B : Nat} {ρ : BMap} {bs : List (Nat × ABlk)} {w : World} (hH : HRel B ρ bs w) {a n : Nat} {ro : Bool} {cs : List Value} (hl : lookB bs a = some (.cells ro cs)) (hc : okC cs n = true) {u : Value} (hu : VRel ρ (.slice (some ⟨a, 0, none⟩) n 1) u) :
    ∃ b o cap, u = .slice (some ⟨b, o, none⟩) n cap ∧ n ≤ cap ∧ b < w.heap.size ∧ ∃ (ccs : Array Value) (e : TypeId) (fz : Nat × Nat), w.heap[b]? = some (.cells ccs e fz) ∧ ∀ j : Nat, j < n → ccs[o + j]? = some (.int .i64 (gi cs j)) := by
  cases hu with
  | slice hρ hle ht =>
    rename_i b o tot cap
    obtain ⟨x, hx, hr⟩ := hH.blk a _ hl
    rw [hρ] at hx; cases hx
    have hlt := hr.lt
    obtain ⟨ccs, e, fz, h1, h2, _⟩ := hr
    refine ⟨b, o + 0, cap, rfl, hle, hlt, ccs, e, fz, h1, fun j hj => ?_⟩
    obtain ⟨v, hv, hvr⟩ := h2 j _ (okC_at hc hj)
    cases hvr
    simpa using hv

theorem setH_ok {P : Program} {call0 : Value → List Value → AH → Option (Value × AH)} (hC : CallOK P call0) {f : FuncId} {ans : SV → List Value → Option Value}
    (ha : ∀ s rest v, s.n ≤ 200 → s.k ≤ 200 → ans s rest = some v → closedV 5 v = true ∧ ∃ H', call0 (.func (.func f) #[] #[]) (s.val :: rest) s.hp = some (v, H')) : CallOK P (setH f ans) := by
  intro fv args H v H' h
  unfold setH at h
  split at h
  · rename_i f' v0 rest
    split at h
    · rename_i hf
      simp only [Bool.and_eq_true] at hf
      obtain ⟨hf, hrest⟩ := hf
      split at h
      · rename_i s hs
        split at h
        · rename_i r hr
          cases h
          have hff : f' = f := Nat.eq_of_beq_eq_true hf
          subst hff
          unfold seeC at hs
          split at hs
          · rename_i p a n0 z wi d fl c m de u8
            split at hs
            · rename_i n g k hh h1 h8
              split at hs
              · rename_i hb
                simp only [Bool.and_eq_true, Nat.ble_eq] at hb
                cases hs
                obtain ⟨hcl, H2, hcall⟩ := ha _ _ _ hb.1 hb.2 hr
                refine ⟨Nat.le_refl _, fun B ρ w fv' args' hfv hargs hH _ => ?_⟩
                rcases seeL_spec h1 with ⟨e1, _⟩ | ⟨a1, ro1, cs1, e1, l1, c1, rfl⟩
                · cases e1
                cases e1
                -- the first argument
                have hsz : args'.size = rest.length + 1 := by have := hargs.1; simp at this; omega
                have h0 := hargs.2 0 _ _ rfl (Array.getElem?_eq_getElem (show 0 < args'.size by omega))
                generalize hu0 : args'[0] = u0 at h0
                cases h0 with
                | agg hs0 hc0 =>
                  rename_i cc
                  have hcs : cc.size = 9 := by rw [← hs0]; rfl
                  have get : ∀ (j : Nat) (hj : j < 9) (y : Value), (#[Value.int .i64 p, .slice (some ⟨a1, 0, none⟩) n0 1, .int .i64 wi, .int .i64 d, .int .i64 fl, .int .i64 c, .int .i64 m, .int .i64 de, u8] : Array Value)[j]? = some y → VRel ρ y (cc[j]'(by omega)) := fun j hj y hy => hc0 j y _ hy (Array.getElem?_eq_getElem (by omega))
                  obtain ⟨b, o, cap, e1, hcap, hbl, ccs, ty, fz, hb1, hcells⟩ := list_rel hH l1 c1 (get 1 (by omega) _ rfl)
                  -- the second list
                  have second : ∃ x8 : Nat × Nat × Nat, (∀ ρ2 : BMap, ρ2 1 = some x8 → VRel ρ2 (.slice (some ⟨1, 0, some 1⟩) k 0) (cc[8]'(by omega))) ∧ ∀ ρ2 : BMap, BRel ρ2 w.heap.size w x8 (.ints hh) := by
                    have h8r := get 8 (by omega) _ rfl
                    rcases seeL_spec h8 with ⟨rfl, rfl⟩ | ⟨a8, ro8, cs8, rfl, l8, c8, rfl⟩
                    · refine ⟨(b, o, 0), fun ρ2 _ => ?_, fun ρ2 => ⟨hbl, ccs, ty, fz, hb1, fun j hj => absurd hj (Nat.not_lt_zero _), Nat.zero_le _⟩⟩
                      generalize cc[8]'(by omega) = q at h8r
                      cases h8r with
                      | snil => exact .rnil
                    · obtain ⟨b', o', cap', e8, hcap', hbl', ccs', ty', fz', hb', hcells'⟩ := list_rel hH l8 c8 h8r
                      refine ⟨(b', o', k), fun ρ2 h2 => ?_, fun ρ2 => ⟨hbl', ccs', ty', fz', hb', hcells', hb.2⟩⟩
                      rw [e8]
                      exact .rsl h2 hcap' (Nat.le_refl _)
                  obtain ⟨x8, r8, b8⟩ := second
                  let ρ2 : BMap := fun i => match i with
                    | 0 => some (b, o, n0)
                    | 1 => some x8
                    | _ => none
                  let s : SV := ⟨p, n0, gi cs1, wi, d, fl, c, m, de, k, hh⟩
                  have hrel : HRel w.heap.size ρ2 s.hp.bs w := by
                    have one : ∀ i q, lookB s.hp.bs i = some q → q.rw = false ∧ ∃ x, ρ2 i = some x ∧ BRel ρ2 w.heap.size w x q := by
                      intro i q hq
                      match i with
                      | 0 => cases hq; exact ⟨rfl, _, rfl, hbl, ccs, ty, fz, hb1, hcells, hb.1⟩
                      | 1 => cases hq; exact ⟨rfl, _, rfl, b8 _⟩
                      | i + 2 => simp [s, SV.hp, lookB, Nat.beq_eq] at hq
                    refine ⟨Nat.le_refl _, fun i q hq => (one i q hq).2, fun i j ki kj xi xj hi hj hki => ?_, hH.glob.of hH.hB fun _ _ => rfl⟩
                    rw [(one i ki hi).1] at hki
                    cases hki
                  have hargs2 : LRel ρ2 (s.val :: rest) args' := by
                    refine ⟨by simpa using hargs.1, fun jj yy yy' hy hy' => ?_⟩
                    rcases jj with _ | jj
                    · cases hy
                      rw [Array.getElem?_eq_getElem (show 0 < args'.size by omega), hu0] at hy'
                      cases hy'
                      refine .agg hs0 fun j y y' hy hy' => ?_
                      have hj : j < 9 := by
                        have := (Array.getElem?_eq_some_iff.1 hy).1
                        exact this
                      rw [Array.getElem?_eq_getElem (show j < cc.size by omega)] at hy'
                      cases hy'
                      match j with
                      | 0 => cases hy; have := get 0 (by omega) _ rfl; generalize cc[0]'(by omega) = q at this ⊢; cases this; exact .int _ _
                      | 1 => cases hy; rw [e1]; exact .rsl rfl hcap (Nat.le_refl _)
                      | 2 => cases hy; have := get 2 (by omega) _ rfl; generalize cc[2]'(by omega) = q at this ⊢; cases this; exact .int _ _
                      | 3 => cases hy; have := get 3 (by omega) _ rfl; generalize cc[3]'(by omega) = q at this ⊢; cases this; exact .int _ _
                      | 4 => cases hy; have := get 4 (by omega) _ rfl; generalize cc[4]'(by omega) = q at this ⊢; cases this; exact .int _ _
                      | 5 => cases hy; have := get 5 (by omega) _ rfl; generalize cc[5]'(by omega) = q at this ⊢; cases this; exact .int _ _
                      | 6 => cases hy; have := get 6 (by omega) _ rfl; generalize cc[6]'(by omega) = q at this ⊢; cases this; exact .int _ _
                      | 7 => cases hy; have := get 7 (by omega) _ rfl; generalize cc[7]'(by omega) = q at this ⊢; cases this; exact .int _ _
                      | 8 => cases hy; exact r8 _ rfl
                      | j + 9 => omega
                    · have hr1 := hargs.2 (jj + 1) yy yy' hy hy'
                      have hcl := List.all_eq_true.1 hrest yy (List.mem_of_getElem? (l := rest) (i := jj) (by simpa using hy))
                      have := closedV_eq 3 yy yy' hcl hr1
                      subst this
                      exact closedV_rel _ 3 _ hcl
                  obtain ⟨_, st⟩ := hC _ _ _ _ _ hcall
                  obtain ⟨fn, cap2, nn, fr, e0, i1, i2, i3⟩ := st w.heap.size ρ2 w (.func (.func f') #[] #[]) args' (.func rfl (fun j v v' hv => by simp at hv)) hargs2 hrel (fun q q1 _ => by
                    match q with
                    | 0 => exact absurd q1 (by simp [SV.hp])
                    | 1 => exact absurd q1 (by simp [SV.hp])
                    | q + 2 => rfl)
                  cases e0
                  cases hfv with
                  | func hs _ =>
                    have hc' := Array.eq_empty_of_size_eq_zero hs.symm
                    subst hc'
                    refine ⟨.func f', #[], nn, fr, rfl, i1, i2, fun c cs => ?_⟩
                    obtain ⟨ρ', w', u, stt, hu, hp⟩ := i3 c cs
                    have := closedV_eq 5 _ u hcl hu
                    subst this
                    exact ⟨ρ, w', _, stt, closedV_rel ρ 5 _ hcl, Ext.refl ρ, fun _ _ => rfl, hH.keep hp.below, hp.below.mono hH.hB⟩
              · cases hs
            · cases hs
          · cases hs
        · cases h
      · cases h
    · cases h
  · cases h


end

section
set_option linter.unusedSimpArgs false
set_option linter.unusedVariables false

end

section
set_option linter.unusedSimpArgs false
set_option linter.unusedVariables false

end

section
set_option linter.unusedSimpArgs false
set_option linter.unusedVariables false

end

section
set_option linter.unusedSimpArgs false
set_option linter.unusedVariables false

/-- What Runs answers. -/
noncomputable def SV.runs (s : SV) (kind : Int) : Bool :=
  match s.find kind with
  | none => false
  | some (su, r, q) => decide (0 ≤ su) && decide (r + 2 < q)
end

section
set_option linter.unusedSimpArgs false
set_option linter.unusedVariables false

noncomputable def firstN (g : Nat → Int) : Nat → Int
  | 0 => 0
  | j + 1 => firstN g j + g j

theorem eo_call4 {T : TypeId → Option TI} {call : Value → List Value → AH → Option (Value × AH)} {g : Operand → Option Value} {H : AH} {f : FuncId} {ts : Array TypeId} {x y z r : Operand} {u v w q : Value} (hf : g (.func f) = some (.func (.func f) #[] #[])) (hx : g x = some u) (hy : g y = some v) (hz : g z = some w) (hr : g r = some q) :
    evO T call (.call ⟨.value (.func f), #[x, y, z, r], ts⟩) g H = call (.func (.func f) #[] #[]) [u, v, w, q] H := by
  simp [evO, evOp, vOp, hOpB, hOpU, hOp, hOpT, hf, hx, hy, hz, hr, mapO, boundOf]
/-- Whether two suits cannot be swapped. -/
noncomputable def SV.noSwap (s : SV) (a b : Int) : Bool := !btw a 0 (s.n - 1) || !btw b 0 (s.n - 1) || s.g a.toNat != s.g b.toNat
/-- What Swap answers. -/
noncomputable def SV.swp (s : SV) (kind a b : Int) : Int :=
  match s.find kind with
  | none => -1
  | some (su, r, _) => if s.noSwap a b then kind else if su = a then firstN s.g b.toNat + r else if su = b then firstN s.g a.toNat + r else kind
end

section
set_option linter.unusedSimpArgs false
set_option linter.unusedVariables false

theorem set_rel {v0 : Value} {rest : List Value} {H : AH} {s : SV} (hs : seeC v0 H.bs = some s) (hrest : rest.all (closedV 3) = true) {B : Nat} {ρ : BMap} {w : World} {args' : Array Value} (hargs : LRel ρ (v0 :: rest) args') (hH : HRel B ρ H.bs w) :
    s.n ≤ 200 ∧ s.k ≤ 200 ∧ ∃ ρ2 : BMap, LRel ρ2 (s.val :: rest) args' ∧ HRel w.heap.size ρ2 s.hp.bs w ∧ ∀ q, 2 ≤ q → ρ2 q = none := by
  unfold seeC at hs
  split at hs
  · rename_i p a n0 z wi d fl c m de u8
    split at hs
    · rename_i n g k hh h1 h8
      split at hs
      · rename_i hb
        simp only [Bool.and_eq_true, Nat.ble_eq] at hb
        cases hs
        rcases seeL_spec h1 with ⟨e1, _⟩ | ⟨a1, ro1, cs1, e1, l1, c1, rfl⟩
        · cases e1
        cases e1
        refine ⟨hb.1, hb.2, ?_⟩
        -- the first argument
        have hsz : args'.size = rest.length + 1 := by have := hargs.1; simp at this; omega
        have h0 := hargs.2 0 _ _ rfl (Array.getElem?_eq_getElem (show 0 < args'.size by omega))
        generalize hu0 : args'[0] = u0 at h0
        cases h0 with
        | agg hs0 hc0 =>
          rename_i cc
          have hcs : cc.size = 9 := by rw [← hs0]; rfl
          have get : ∀ (j : Nat) (hj : j < 9) (y : Value), (#[Value.int .i64 p, .slice (some ⟨a1, 0, none⟩) n0 1, .int .i64 wi, .int .i64 d, .int .i64 fl, .int .i64 c, .int .i64 m, .int .i64 de, u8] : Array Value)[j]? = some y → VRel ρ y (cc[j]'(by omega)) := fun j hj y hy => hc0 j y _ hy (Array.getElem?_eq_getElem (by omega))
          obtain ⟨b, o, cap, e1, hcap, hbl, ccs, ty, fz, hb1, hcells⟩ := list_rel hH l1 c1 (get 1 (by omega) _ rfl)
          -- the second list
          have second : ∃ x8 : Nat × Nat × Nat, (∀ ρ2 : BMap, ρ2 1 = some x8 → VRel ρ2 (.slice (some ⟨1, 0, some 1⟩) k 0) (cc[8]'(by omega))) ∧ ∀ ρ2 : BMap, BRel ρ2 w.heap.size w x8 (.ints hh) := by
            have h8r := get 8 (by omega) _ rfl
            rcases seeL_spec h8 with ⟨rfl, rfl⟩ | ⟨a8, ro8, cs8, rfl, l8, c8, rfl⟩
            · refine ⟨(b, o, 0), fun ρ2 _ => ?_, fun ρ2 => ⟨hbl, ccs, ty, fz, hb1, fun j hj => absurd hj (Nat.not_lt_zero _), Nat.zero_le _⟩⟩
              generalize cc[8]'(by omega) = q at h8r
              cases h8r with
              | snil => exact .rnil
            · obtain ⟨b', o', cap', e8, hcap', hbl', ccs', ty', fz', hb', hcells'⟩ := list_rel hH l8 c8 h8r
              refine ⟨(b', o', k), fun ρ2 h2 => ?_, fun ρ2 => ⟨hbl', ccs', ty', fz', hb', hcells', hb.2⟩⟩
              rw [e8]
              exact .rsl h2 hcap' (Nat.le_refl _)
          obtain ⟨x8, r8, b8⟩ := second
          let ρ2 : BMap := fun i => match i with
            | 0 => some (b, o, n0)
            | 1 => some x8
            | _ => none
          let s : SV := ⟨p, n0, gi cs1, wi, d, fl, c, m, de, k, hh⟩
          have hrel : HRel w.heap.size ρ2 s.hp.bs w := by
            have one : ∀ i q, lookB s.hp.bs i = some q → q.rw = false ∧ ∃ x, ρ2 i = some x ∧ BRel ρ2 w.heap.size w x q := by
              intro i q hq
              match i with
              | 0 => cases hq; exact ⟨rfl, _, rfl, hbl, ccs, ty, fz, hb1, hcells, hb.1⟩
              | 1 => cases hq; exact ⟨rfl, _, rfl, b8 _⟩
              | i + 2 => simp [s, SV.hp, lookB, Nat.beq_eq] at hq
            refine ⟨Nat.le_refl _, fun i q hq => (one i q hq).2, fun i j ki kj xi xj hi hj hki => ?_, hH.glob.of hH.hB fun _ _ => rfl⟩
            rw [(one i ki hi).1] at hki
            cases hki
          have hargs2 : LRel ρ2 (s.val :: rest) args' := by
            refine ⟨by simpa using hargs.1, fun jj yy yy' hy hy' => ?_⟩
            rcases jj with _ | jj
            · cases hy
              rw [Array.getElem?_eq_getElem (show 0 < args'.size by omega), hu0] at hy'
              cases hy'
              refine .agg hs0 fun j y y' hy hy' => ?_
              have hj : j < 9 := by
                have := (Array.getElem?_eq_some_iff.1 hy).1
                exact this
              rw [Array.getElem?_eq_getElem (show j < cc.size by omega)] at hy'
              cases hy'
              match j with
              | 0 => cases hy; have := get 0 (by omega) _ rfl; generalize cc[0]'(by omega) = q at this ⊢; cases this; exact .int _ _
              | 1 => cases hy; rw [e1]; exact .rsl rfl hcap (Nat.le_refl _)
              | 2 => cases hy; have := get 2 (by omega) _ rfl; generalize cc[2]'(by omega) = q at this ⊢; cases this; exact .int _ _
              | 3 => cases hy; have := get 3 (by omega) _ rfl; generalize cc[3]'(by omega) = q at this ⊢; cases this; exact .int _ _
              | 4 => cases hy; have := get 4 (by omega) _ rfl; generalize cc[4]'(by omega) = q at this ⊢; cases this; exact .int _ _
              | 5 => cases hy; have := get 5 (by omega) _ rfl; generalize cc[5]'(by omega) = q at this ⊢; cases this; exact .int _ _
              | 6 => cases hy; have := get 6 (by omega) _ rfl; generalize cc[6]'(by omega) = q at this ⊢; cases this; exact .int _ _
              | 7 => cases hy; have := get 7 (by omega) _ rfl; generalize cc[7]'(by omega) = q at this ⊢; cases this; exact .int _ _
              | 8 => cases hy; exact r8 _ rfl
              | j + 9 => omega
            · have hr1 := hargs.2 (jj + 1) yy yy' hy hy'
              have hcl := List.all_eq_true.1 hrest yy (List.mem_of_getElem? (l := rest) (i := jj) (by simpa using hy))
              have := closedV_eq 3 yy yy' hcl hr1
              subst this
              exact closedV_rel _ 3 _ hcl
          exact ⟨ρ2, hargs2, hrel, fun q q1 => by
            match q with
            | 0 => omega
            | 1 => omega
            | q + 2 => rfl⟩
      · cases hs
    · cases hs
  · cases hs


noncomputable def intsV (l : List Int) : List Value := l.map fun n => Value.int .i64 n

/-- A list of integers that lies in the block b; nil if it is empty. -/
noncomputable def lstV (b : Nat) (l : List Int) : Value := match l with
  | [] => .slice none 0 0
  | _ :: _ => .slice (some ⟨b, 0, none⟩) l.length 1

noncomputable def lstM (H : AH) (l : List Int) : AH := match l with
  | [] => H
  | _ :: _ => ⟨H.next + 1, (H.next, .cells false (intsV l)) :: H.bs⟩

/-- Calls with a set in cells and closed values, that answer a list in one new block. -/
noncomputable def setLH (f : FuncId) (ans : SV → List Value → Option (List Int)) : Value → List Value → AH → Option (Value × AH) := fun fv args H =>
  match fv, args with
  | .func (.func f') ⟨[]⟩ ⟨[]⟩, v :: rest =>
    if Nat.beq f' f && rest.all (closedV 3) then
      match seeC v H.bs with
      | some s => match ans s rest with
        | some l => some (lstV H.next l, lstM H l)
        | none => none
      | none => none
    else none
  | _, _ => none
theorem intsV_get {l : List Int} {j : Nat} {v : Value} (h : (intsV l)[j]? = some v) : ∃ n : Int, v = .int .i64 n := by
  unfold intsV at h
  rw [List.getElem?_map] at h
  cases hj : l[j]? with
  | none => rw [hj] at h; cases h
  | some n => rw [hj] at h; cases h; exact ⟨n, rfl⟩
theorem setLH_ok {P : Program} {call0 : Value → List Value → AH → Option (Value × AH)} (hC : CallOK P call0) {f : FuncId} {ans : SV → List Value → Option (List Int)}
    (ha : ∀ s rest l, s.n ≤ 200 → s.k ≤ 200 → ans s rest = some l → ∃ b H', call0 (.func (.func f) #[] #[]) (s.val :: rest) s.hp = some (lstV b l, H') ∧ (l ≠ [] → lookB H'.bs b = some (.cells false (intsV l)))) : CallOK P (setLH f ans) := by
  intro fv args H vf Hf h
  unfold setLH at h
  split at h
  · rename_i f' v0 rest
    split at h
    · rename_i hf
      simp only [Bool.and_eq_true] at hf
      obtain ⟨hf, hrest⟩ := hf
      split at h
      · rename_i s hs
        split at h
        · rename_i l hl0
          cases h
          have hff : f' = f := Nat.eq_of_beq_eq_true hf
          subst hff
          refine ⟨by cases l <;> simp [lstM], fun B ρ w fv' args' hfv hargs hH hfr => ?_⟩
          obtain ⟨hn, hk, ρ2, hca, hrel, hno⟩ := set_rel hs hrest hargs hH
          obtain ⟨b, H', hcall, hb⟩ := ha _ _ _ hn hk hl0
          have hfree : Free ρ2 s.hp.next H'.next := fun q q1 _ => hno q q1
          obtain ⟨_, sst⟩ := hC _ _ _ _ _ hcall
          obtain ⟨fn, cap, n, fr, e0, i1, i2, i3⟩ := sst w.heap.size ρ2 w (.func (.func f') #[] #[]) args' (.func rfl (fun j v v' hv => by simp at hv)) hca hrel hfree
          cases e0
          cases hfv with
          | func hs _ =>
            have hc' := Array.eq_empty_of_size_eq_zero hs.symm
            subst hc'
            refine ⟨.func f', #[], n, fr, rfl, i1, i2, fun c cs => ?_⟩
            obtain ⟨ρ', w', u, st, hu, hp⟩ := i3 c cs
            have hkeep := hH.keep hp.below
            cases l with
            | nil =>
              simp only [lstV] at hu
              cases hu
              exact ⟨ρ, w', _, st, .snil, Ext.refl ρ, fun _ _ => rfl, hkeep, hp.below.mono hH.hB⟩
            | cons a t =>
              have hblk := hb (by simp)
              obtain ⟨x, hx, hr⟩ := hp.rel.blk b _ hblk
              have hnone : ρ H.next = none := hfr H.next (Nat.le_refl _) (by simp [lstM])
              let ρf : BMap := fun j => if j = H.next then some x else ρ j
              have hext : Ext ρ ρf := fun i y hy => by
                have : i ≠ H.next := fun e => by rw [e, hnone] at hy; cases hy
                simp [ρf, this, hy]
              have hnew : ρf H.next = some x := by simp [ρf]
              obtain ⟨conc, ty, fz, c1, c2, c3, c4⟩ := hr
              simp only [Bool.false_eq_true, if_false] at c3
              have hbl : BRel ρf B w' x (.cells false (intsV (a :: t))) := by
                refine ⟨conc, ty, fz, c1, fun j v hv => ?_, ?_, c4⟩
                · obtain ⟨z, hz, hzr⟩ := c2 j v hv
                  obtain ⟨m, rfl⟩ := intsV_get hv
                  cases hzr
                  exact ⟨_, hz, .int _ _⟩
                · simp only [Bool.false_eq_true, if_false]
                  exact ⟨Nat.le_trans hH.hB c3.1, c3.2⟩
              have look : ∀ i k, lookB (lstM H (a :: t)).bs i = some k → (i = H.next ∧ k = .cells false (intsV (a :: t))) ∨ (i ≠ H.next ∧ lookB H.bs i = some k) := by
                intro i k hk
                simp only [lstM, lookB] at hk
                split at hk
                · rename_i e
                  cases hk
                  exact .inl ⟨Nat.eq_of_beq_eq_true e, rfl⟩
                · rename_i e
                  exact .inr ⟨fun e' => e (by rw [e']; exact Nat.beq_refl _), hk⟩
              have hv : VRel ρf (lstV H.next (a :: t)) u := by
                simp only [lstV] at hu ⊢
                cases hu with
                | slice hρ hl ht =>
                  rw [hx] at hρ
                  cases hρ
                  exact .slice hnew hl ht
              refine ⟨ρf, w', u, st, hv, hext, fun i hi => ?_, ⟨hkeep.hB, fun i k hk => ?_, fun i j ki kj xi xj hi hj hki hkj hxi hxj heq => ?_, hkeep.glob⟩, hp.below.mono hH.hB⟩
              · have : i ≠ H.next := by
                  simp only [lstM] at hi
                  omega
                simp [ρf, this]
              · rcases look i k hk with ⟨rfl, rfl⟩ | ⟨_, h5⟩
                · exact ⟨x, hnew, hbl⟩
                · obtain ⟨y, hy, hr'⟩ := hkeep.blk i k h5
                  exact ⟨y, hext _ _ hy, hr'.ext hext⟩
              · have old : ∀ i k y, i ≠ H.next → lookB H.bs i = some k → ρf i = some y → ρ i = some y ∧ y.1 < w.heap.size := fun i k y hne hk hy => by
                  obtain ⟨z, hz, hr'⟩ := hH.blk i k hk
                  rw [hext _ _ hz] at hy; cases hy
                  exact ⟨hz, hr'.lt⟩
                rcases look i ki hi with ⟨e1, _⟩ | ⟨n1, h5⟩
                · rcases look j kj hj with ⟨e2, _⟩ | ⟨n2, h6⟩
                  · exact .inl (by rw [e1, e2])
                  · have := (old j kj xj n2 h6 hxj).2
                    rw [e1, hnew] at hxi
                    cases hxi
                    omega
                · rcases look j kj hj with ⟨e2, _⟩ | ⟨n2, h6⟩
                  · have := (old i ki xi n1 h5 hxi).2
                    rw [e2, hnew] at hxj
                    cases hxj
                    omega
                  · exact hH.inj i j ki kj xi xj h5 h6 hki hkj (old i ki xi n1 h5 hxi).1 (old j kj xj n2 h6 hxj).1 heq
        · cases h
      · cases h
    · cases h
  · cases h
theorem setLH_go {f : FuncId} {ans : SV → List Value → Option (List Int)} {b : List (Nat × ABlk)} {s : SV} {v0 : Value} {M : Nat} {rest : List Value} {l : List Int} (h : seeC v0 b = some s) (hr : rest.all (closedV 3) = true) (ha : ans s rest = some l) : setLH f ans (.func (.func f) #[] #[]) (v0 :: rest) ⟨M, b⟩ = some (lstV M l, lstM ⟨M, b⟩ l) := by
  show (if Nat.beq f f && rest.all (closedV 3) then match seeC v0 b with
      | some s => match ans s rest with
        | some l => some (lstV M l, lstM ⟨M, b⟩ l)
        | none => none
      | none => none
    else none) = _
  rw [h]
  simp only [ha, hr, Nat.beq_refl, Bool.and_self, if_true]
theorem setH_goL {f : FuncId} {ans : SV → List Value → Option Value} {b : List (Nat × ABlk)} {s : SV} {v0 : Value} {M : Nat} {rest : List Value} {r : Value} (h : seeC v0 b = some s) (hr : rest.all (closedV 3) = true) (ha : ans s rest = some r) : setH f ans (.func (.func f) #[] #[]) (v0 :: rest) ⟨M, b⟩ = some (r, ⟨M, b⟩) := by
  show (if Nat.beq f f && rest.all (closedV 3) then match seeC v0 b with
      | some s => match ans s rest with
        | some r => some (r, (⟨M, b⟩ : AH))
        | none => none
      | none => none
    else none) = _
  rw [h]
  simp only [ha, hr, Nat.beq_refl, Bool.and_self, if_true]


end

section
set_option linter.unusedSimpArgs false
set_option linter.unusedVariables false

/-! ### Whether a list has a number -/
noncomputable def ansIx : List Value → AH → Option Value
  | [.slice (some ⟨0, 0, some 1⟩) n 0, .int .i64 x], ⟨1, [(0, .ints g)]⟩ => some (.int .i64 (idxOfG g x n 0))
  | _, _ => none
noncomputable def ansHas : List Value → AH → Option Value
  | [.slice (some ⟨0, 0, some 1⟩) n 0, .int .i64 x], ⟨1, [(0, .ints g)]⟩ => some (.bool (hasG g n x))
  | _, _ => none

theorem ok119 : AnsOK (runH noH) 97 ansIx := by
  intro cargs Hc v h
  unfold ansIx at h
  split at h
  · rename_i n x g
    cases h
    refine ⟨rfl, fun hr => ?_⟩
    obtain ⟨H', h⟩ := index_ev (inH noH) g n x (hr.len (j := 0) (i := 0) (g := g) rfl rfl)
    exact ⟨H', runH_fn F119 rfl h⟩
  · cases h
theorem ok86 : AnsOK (runH noH) 56 ansHas := by
  intro cargs Hc v h
  unfold ansHas at h
  split at h
  · rename_i n x g
    cases h
    refine ⟨rfl, fun hr => ?_⟩
    obtain ⟨H', h⟩ := has_ev (inH noH) g n x (hr.len (j := 0) (i := 0) (g := g) rfl rfl)
    exact ⟨H', runH_fn F86 rfl h⟩
  · cases h
theorem canH_lst {f : FuncId} {ans : List Value → AH → Option Value} {i n : Nat} {g : Nat → Int} {x : Int} {H : AH} (h : lookB H.bs i = some (.ints g)) :
    canH f ans (.func (.func f) #[] #[]) [.slice (some ⟨i, 0, some 1⟩) n 0, .int .i64 x] H = (ans [sl1 n, .int .i64 x] (hp1 g)).map (·, H) := by
  simp [canH, canon, canonL, canonV, idOf, idxOf, canonB, h, sl1, hp1]
  generalize ans _ _ = x
  cases x <;> rfl

noncomputable def G0 : Hnd := canH 97 ansIx
theorem G0_ok : CallOK Try.prog G0 := canH_ok (runH_ok noH_ok) ok119
theorem ok110 : AnsOK (runH G0) 85 ansHas := by
  intro cargs Hc v h
  unfold ansHas at h
  split at h
  · rename_i n x g
    cases h
    refine ⟨rfl, fun _ => ?_⟩
    obtain ⟨H', h⟩ := contains_ev (inH G0) (fun g n x H h => inH_hd (by unfold G0 sl1; rw [canH_lst h]; rfl)) g n x
    exact ⟨H', runH_fn F110 rfl h⟩
  · cases h

theorem canH_siT {f : FuncId} {ans : List Value → AH → Option Value} {s : SV} {k : Int} {H : AH} (h0 : lookB H.bs 0 = some (.ints s.g)) (h1 : lookB H.bs 1 = some (.ints s.h)) :
    canH f ans (.func (.func f) #[] #[]) [s.val, .int .i64 k] H = (ans [s.val, .int .i64 k] s.hp).map (·, H) := by
  simp [canH, canon, canonL, canonV, idOf, idxOf, SV.val, canonB, h0, h1, SV.hp]
  generalize ans _ _ = x
  cases x <;> rfl

/-! ### Answers that hang on a set and a number -/
noncomputable def ansSK (a : SV → Int → Option Value) : List Value → AH → Option Value
  | [v, .int .i64 k], H => match seeSet v H with
    | some s => a s k
    | none => none
  | _, _ => none
theorem ansSK_ok {call0 : Hnd} {f : FuncId} {a : SV → Int → Option Value} (h : ∀ s k v, a s k = some v → closedV 5 v = true ∧ ∃ H', call0 (.func (.func f) #[] #[]) [s.val, .int .i64 k] s.hp = some (v, H')) : AnsOK call0 f (ansSK a) := by
  intro cargs Hc v hv
  unfold ansSK at hv
  split at hv
  · split at hv
    · rename_i s hs
      obtain ⟨rfl, rfl⟩ := seeSet_spec hs
      exact ⟨(h _ _ _ hv).1, fun _ => (h _ _ _ hv).2⟩
    · cases hv
  · cases hv
theorem canH_sk {f : FuncId} {a : SV → Int → Option Value} {s : SV} {k : Int} {H : AH} (h0 : lookB H.bs 0 = some (.ints s.g)) (h1 : lookB H.bs 1 = some (.ints s.h)) : canH f (ansSK a) (.func (.func f) #[] #[]) [s.val, .int .i64 k] H = (a s k).map (·, H) := by
  rw [canH_siT h0 h1]
  rfl


noncomputable def aRsize (s : SV) : Option Value := some (.int .i64 s.rsize)
noncomputable def aKinds (s : SV) : Option Value := some (.int .i64 s.kinds)
theorem ok22 : AnsOK (runH L4) 54 (ans1 aRsize) := ans1_ok fun s v h => by
  cases h
  refine ⟨rfl, fun _ _ => ?_⟩
  obtain ⟨H', h⟩ := rsize_ev (inH L4) L4_18 L4_79 s
  exact ⟨H', runH_fn F22 rfl h⟩
theorem ok20 : AnsOK (runH L4) 50 (ans1 aKinds) := ans1_ok fun s v h => by
  cases h
  refine ⟨rfl, fun _ _ => ?_⟩
  obtain ⟨H', h⟩ := rkinds_ev (inH L4) L4_18 L4_79 s
  exact ⟨H', runH_fn F20 rfl h⟩
noncomputable def R0 : Hnd := orH (canH 85 ansHas) (orH (canH 56 ansHas) (orH (canH 54 (ans1 aRsize)) (orH (canH 50 (ans1 aKinds)) L4)))
theorem R0_ok : CallOK Try.prog R0 :=
  orH_ok (canH_ok (runH_ok G0_ok) ok110) (orH_ok (canH_ok (runH_ok noH_ok) ok86) (orH_ok (canH_ok (runH_ok L4_ok) ok22) (orH_ok (canH_ok (runH_ok L4_ok) ok20) L4_ok)))
theorem R0_has (i n : Nat) (g : Nat → Int) (x : Int) (H : AH) (h : lookB H.bs i = some (.ints g)) : R0 (.func (.func 85) #[] #[]) [.slice (some ⟨i, 0, some 1⟩) n 0, .int .i64 x] H = some (.bool (hasG g n x), H) := orH_l (by rw [canH_lst h]; rfl)
theorem R0_rsize (s : SV) (H : AH) (h0 : lookB H.bs 0 = some (.ints s.g)) (h1 : lookB H.bs 1 = some (.ints s.h)) : R0 (.func (.func 54) #[] #[]) [s.val] H = some (.int .i64 s.rsize, H) := orH_r (canH_other rfl) (orH_r (canH_other rfl) (orH_l (canH_set h0 h1)))
theorem R0_plain (s : SV) (H : AH) (h0 : lookB H.bs 0 = some (.ints s.g)) (h1 : lookB H.bs 1 = some (.ints s.h)) : R0 (.func (.func 84) #[] #[]) [s.val] H = some (.int .i64 s.plain, H) := orH_r (canH_other rfl) (orH_r (canH_other rfl) (orH_r (canH_other rfl) (orH_r (canH_other rfl) (orH_r (canH_other rfl) (orH_r (canH_other rfl) (orH_l (orH_l (orH_l (L0_75 s H h0 h1)))))))))
theorem R0_rplain (s : SV) (H : AH) (h0 : lookB H.bs 0 = some (.ints s.g)) (h1 : lookB H.bs 1 = some (.ints s.h)) : R0 (.func (.func 55) #[] #[]) [s.val] H = some (.int .i64 s.plain, H) := orH_r (canH_other rfl) (orH_r (canH_other rfl) (orH_r (canH_other rfl) (orH_r (canH_other rfl) (orH_r (canH_other rfl) (orH_r (canH_other rfl) (orH_l (orH_l (orH_l (L0_79 s H h0 h1)))))))))
noncomputable def aFace (s : SV) (t : Int) : Option Value := if s.inB t = true then some (faceV (s.faceK t) (s.faceR t)) else none
theorem ok85 : AnsOK (runH R0) 53 (ansSK aFace) := ansSK_ok fun s t v h => by
  unfold aFace at h
  split at h
  · rename_i hb
    cases h
    obtain ⟨_, hT⟩ := tile_of hb
    obtain ⟨H', h⟩ := face_ev (inH R0) s t (fun H h0 h1 => inH_hd (R0_plain s H h0 h1)) (fun i n g x H h => inH_hd (R0_has i n g x H h)) hT
    exact ⟨rfl, H', runH_fn F85 rfl h⟩
  · cases h
noncomputable def aKindOf (s : SV) (t : Int) : Option Value := some (.int .i64 (s.kindOf t))
noncomputable def aRedOf (s : SV) (t : Int) : Option Value := some (.bool (s.redOf t))
theorem ok29 : AnsOK (runH R0) 17 (ansSK aKindOf) := ansSK_ok fun s t v h => by
  cases h
  obtain ⟨H', h⟩ := rkind_ev (inH R0) s t (fun H h0 h1 => inH_hd (R0_rsize s H h0 h1)) (fun H h0 h1 => inH_hd (R0_rplain s H h0 h1))
  exact ⟨rfl, H', runH_fn F29 rfl h⟩
noncomputable def R1 : Hnd := orH (canH 53 (ansSK aFace)) (orH (canH 17 (ansSK aKindOf)) R0)
theorem R1_ok : CallOK Try.prog R1 := orH_ok (canH_ok (runH_ok R0_ok) ok85) (orH_ok (canH_ok (runH_ok R0_ok) ok29) R0_ok)
theorem R1_rhas (i n : Nat) (g : Nat → Int) (x : Int) (H : AH) (h : lookB H.bs i = some (.ints g)) : R1 (.func (.func 56) #[] #[]) [.slice (some ⟨i, 0, some 1⟩) n 0, .int .i64 x] H = some (.bool (hasG g n x), H) := orH_r (canH_other rfl) (orH_r (canH_other rfl) (orH_r (canH_other rfl) (orH_l (by rw [canH_lst h]; rfl))))
theorem R1_rplain (s : SV) (H : AH) (h0 : lookB H.bs 0 = some (.ints s.g)) (h1 : lookB H.bs 1 = some (.ints s.h)) : R1 (.func (.func 55) #[] #[]) [s.val] H = some (.int .i64 s.plain, H) := orH_r (canH_other rfl) (orH_r (canH_other rfl) (orH_r (canH_other rfl) (orH_r (canH_other rfl) (orH_r (canH_other rfl) (orH_r (canH_other rfl) (orH_r (canH_other rfl) (orH_r (canH_other rfl) (orH_l (orH_l (orH_l (L0_79 s H h0 h1)))))))))))
theorem R1_kind (s : SV) (t : Int) (H : AH) (h0 : lookB H.bs 0 = some (.ints s.g)) (h1 : lookB H.bs 1 = some (.ints s.h)) : R1 (.func (.func 17) #[] #[]) [s.val, .int .i64 t] H = some (.int .i64 (s.kindOf t), H) := orH_r (canH_other rfl) (orH_l (by rw [canH_sk h0 h1]; rfl))

theorem ok31 : AnsOK (runH R1) 19 (ansSK aRedOf) := ansSK_ok fun s t v h => by
  cases h
  obtain ⟨H', h⟩ := rred_ev (inH R1) s t (fun H h0 h1 => inH_hd (R1_kind s t H h0 h1)) (fun H h0 h1 => inH_hd (R1_rplain s H h0 h1)) (fun i n g x H h => inH_hd (R1_rhas i n g x H h))
  exact ⟨rfl, H', runH_fn F31 rfl h⟩
noncomputable def R2 : Hnd := orH (canH 19 (ansSK aRedOf)) R1
theorem R2_ok : CallOK Try.prog R2 := orH_ok (canH_ok (runH_ok R1_ok) ok31) R1_ok
theorem R2_rhas (i n : Nat) (g : Nat → Int) (x : Int) (H : AH) (h : lookB H.bs i = some (.ints g)) : R2 (.func (.func 56) #[] #[]) [.slice (some ⟨i, 0, some 1⟩) n 0, .int .i64 x] H = some (.bool (hasG g n x), H) := orH_r (canH_other rfl) (orH_r (canH_other rfl) (orH_r (canH_other rfl) (orH_r (canH_other rfl) (orH_l (by rw [canH_lst h]; rfl)))))
theorem R2_check (s : SV) (H : AH) (h0 : lookB H.bs 0 = some (.ints s.g)) (h1 : lookB H.bs 1 = some (.ints s.h)) : R2 (.func (.func 63) #[] #[]) [s.val] H = some (.int .i64 s.err, H) := orH_r (canH_other rfl) (orH_r (canH_other rfl) (orH_r (canH_other rfl) (orH_r (canH_other rfl) (orH_r (canH_other rfl) (orH_r (canH_other rfl) (orH_r (canH_other rfl) (orH_l (canH_set h0 h1))))))))
theorem R2_size (s : SV) (H : AH) (h0 : lookB H.bs 0 = some (.ints s.g)) (h1 : lookB H.bs 1 = some (.ints s.h)) : R2 (.func (.func 80) #[] #[]) [s.val] H = some (.int .i64 s.size, H) := orH_r (canH_other rfl) (orH_r (canH_other rfl) (orH_r (canH_other rfl) (orH_r (canH_other rfl) (orH_r (canH_other rfl) (orH_r (canH_other rfl) (orH_r (canH_other rfl) (orH_r (canH_other rfl) (orH_r (canH_other rfl) (orH_l (orH_l (orH_r rfl (orH_r (canH_other rfl) (orH_r (canH_other rfl) (canH_set h0 h1))))))))))))))
theorem R2_btw (n l m : Int) (H : AH) : R2 (.func (.func 52) #[] #[]) [.int .i64 n, .int .i64 l, .int .i64 m] H = some (.bool (btw n l m), H) := orH_r (canH_other rfl) (orH_r (canH_other rfl) (orH_r (canH_other rfl) (orH_r (canH_other rfl) (orH_r (canH_other rfl) (orH_r (canH_other rfl) (orH_r (canH_other rfl) (orH_r (canH_other rfl) (orH_r (canH_other rfl) (rfl)))))))))
theorem R2_kind (s : SV) (t : Int) (H : AH) (h0 : lookB H.bs 0 = some (.ints s.g)) (h1 : lookB H.bs 1 = some (.ints s.h)) : R2 (.func (.func 17) #[] #[]) [s.val, .int .i64 t] H = some (.int .i64 (s.kindOf t), H) := orH_r (canH_other rfl) (orH_r (canH_other rfl) (orH_l (by rw [canH_sk h0 h1]; rfl)))
end

section
set_option linter.unusedSimpArgs false
set_option linter.unusedVariables false

theorem F12 : tabF Try.prog 83 = some Try.f83 := by kernel_rfl
theorem F16 : tabF Try.prog 94 = some Try.f94 := by kernel_rfl

/-- The first error of tiles from the i-th on, m of them. -/
noncomputable def tErr (s : SV) (t : Nat → Int) : Nat → Nat → Int
  | 0, _ => 0
  | m + 1, i => if s.inB (t i) = false then 2 else if hasG t i (t i) = true then 9 else tErr s t m (i + 1)

theorem idx_pos (g : Nat → Int) (x : Int) : ∀ m i, 0 ≤ idxOfG g x m i ↔ ∃ j, i ≤ j ∧ j < i + m ∧ x = g j
  | 0, i => by
    simp only [idxOfG]
    exact ⟨fun h => absurd h (by omega), fun ⟨j, h1, h2, _⟩ => by omega⟩
  | m + 1, i => by
    rw [idxOfG]
    by_cases h : x = g i
    · rw [if_pos h]
      exact ⟨fun _ => ⟨i, by omega, by omega, h⟩, fun _ => by omega⟩
    · rw [if_neg h, idx_pos g x m (i + 1)]
      constructor
      · rintro ⟨j, h1, h2, h3⟩
        exact ⟨j, by omega, by omega, h3⟩
      · rintro ⟨j, h1, h2, h3⟩
        rcases Nat.lt_or_ge i j with h4 | h4
        · exact ⟨j, by omega, by omega, h3⟩
        · obtain rfl : j = i := by omega
          exact absurd h3 h
theorem hasG_iff (g : Nat → Int) (n : Nat) (x : Int) : hasG g n x = true ↔ ∃ j, j < n ∧ x = g j := by
  unfold hasG
  rw [decide_eq_true_iff, idx_pos]
  constructor
  · rintro ⟨j, _, h, e⟩; exact ⟨j, by omega, e⟩
  · rintro ⟨j, h, e⟩; exact ⟨j, by omega, by omega, e⟩
theorem hasG_succ (g : Nat → Int) (n : Nat) (x : Int) : hasG g (n + 1) x = (hasG g n x || decide (x = g n)) := by
  rw [Bool.eq_iff_iff, Bool.or_eq_true, hasG_iff, hasG_iff, decide_eq_true_iff]
  constructor
  · rintro ⟨j, h, e⟩
    rcases Nat.lt_or_ge j n with h4 | h4
    · exact .inl ⟨j, h4, e⟩
    · obtain rfl : j = n := by omega
      exact .inr e
  · rintro (⟨j, h, e⟩ | e)
    · exact ⟨j, by omega, e⟩
    · exact ⟨n, by omega, e⟩

/-- Which tiles lie among the first i. -/
noncomputable def seenL (t : Nat → Int) (i : Nat) : List Value := (List.range 144).map fun (j : Nat) => Value.bool (hasG t i (j : Int))
theorem seenL_len (t : Nat → Int) (i : Nat) : (seenL t i).length = 144 := by simp [seenL]
theorem seenL_at (t : Nat → Int) (i j : Nat) (h : j < 144) : (seenL t i)[j]? = some (.bool (hasG t i (j : Int))) := by simp [seenL, h]
def no144 : List Value := List.replicate 144 (Value.bool false)
theorem seenL_zero (t : Nat → Int) : no144 = seenL t 0 := by
  unfold no144
  apply List.ext_getElem?
  intro j
  rcases Nat.lt_or_ge j 144 with h | h
  · rw [seenL_at t 0 j h]
    rw [List.getElem?_replicate, if_pos h]; simp [hasG, idxOfG]
  · rw [List.getElem?_eq_none (by simpa using h), List.getElem?_eq_none (by rw [seenL_len]; exact h)]
theorem seenL_set (t : Nat → Int) (i k : Nat) (hk : k < 144) (e : t i = (k : Int)) : (seenL t i).set k (.bool true) = seenL t (i + 1) := by
  apply List.ext_getElem?
  intro j
  rcases Nat.lt_or_ge j 144 with h | h
  · rw [seenL_at t (i + 1) j h, List.getElem?_set, seenL_len, hasG_succ, e]
    by_cases hj : k = j
    · subst hj
      simp [hk]
    · have : ¬ ((j : Int) = (k : Int)) := by omega
      simp [hj, seenL_at t i j h, this]
  · rw [List.getElem?_eq_none (by rw [List.length_set, seenL_len]; exact h), List.getElem?_eq_none (by rw [seenL_len]; exact h)]

theorem ixarr {T : TypeId → Option TI} {t e : TypeId} {n z : Nat} (h1 : (T t).map (·.desc) = some (.array n e)) (h2 : (T e).map (·.size) = some z) (i off k : Nat) (h : k < n) : aIndexAddr T t (.pointer (some ⟨i, off, none⟩)) (.int .i64 (k : Int)) = some (.pointer (some ⟨i, off + k * z, none⟩)) := by
  obtain ⟨_, _, _, _, ht⟩ := tdesc h1
  cases he : T e with
  | none => rw [he] at h2; cases h2
  | some q =>
    rw [he] at h2
    simp only [Option.map_some, Option.some.injEq] at h2
    have hb : Nat.blt k n = true := by simpa [Nat.blt_eq] using h
    simp [aIndexAddr, natV, ht, he, h2, hb]
theorem IA54 (i k : Nat) (h : k < 144) : aIndexAddr (tabT Try.prog) 120 (.pointer (some ⟨i, 0, none⟩)) (.int .i64 (k : Int)) = some (.pointer (some ⟨i, k, none⟩)) := by
  rw [ixarr (e := 4) (n := 144) (z := 1) (by kernel_rfl) (by kernel_rfl) i 0 k h]
  simp
theorem AL54 (call : Value → List Value → AH → Option (Value × AH)) {g : Operand → Option Value} {H : AH} {d : Option Tmp} {t : TypeId} {p : String} {a : Array Edge} {gd : Option (Nat × Bool)} : evOp (tabT Try.prog) call ⟨d, .alloc 120, t, p, a, gd⟩ g H = some (.pointer (some ⟨H.next, 0, none⟩), ⟨H.next + 1, (H.next, .cells false no144) :: H.bs⟩) :=
  evOp_evO.trans (eo_alloc (cs := no144) (by kernel_rfl))
theorem ST4 (H : AH) (i off : Nat) (v : Value) : aStore (tabT Try.prog) H 4 (.pointer (some ⟨i, off, none⟩)) v = match lookB H.bs i with
    | some (.cells false cs) => if Nat.beq v.cells.toList.length 1 && Nat.ble (off + v.cells.toList.length) cs.length && v.cells.toList.all cellV then some { H with bs := setB H.bs i (.cells false (putF cs off v.cells.toList)) } else none
    | _ => none := sti (by kernel_rfl) H i off v

/-- The memory of a set and of a list. -/
noncomputable def hpT (s : SV) (t : Nat → Int) : AH := ⟨3, [(2, .ints t), (1, .ints s.h), (0, .ints s.g)]⟩
/-- The cells of a set. -/
noncomputable def SV.cs (s : SV) : List Value := [.int .i64 s.p, .slice (some ⟨0, 0, some 1⟩) s.n 0, .int .i64 s.w, .int .i64 s.d, .int .i64 s.f, .int .i64 s.c, .int .i64 s.m, .int .i64 s.de, .slice (some ⟨1, 0, some 1⟩) s.k 0]
noncomputable def hpC (s : SV) (t : Nat → Int) (i : Nat) : AH := ⟨5, [(4, .cells false (seenL t i)), (3, .cells false s.cs), (2, .ints t), (1, .ints s.h), (0, .ints s.g)]⟩
noncomputable def sl2 (n : Nat) : Value := .slice (some ⟨2, 0, some 1⟩) n 0

noncomputable def I12 (s : SV) (t : Nat → Int) (n : Nat) (m : Nat) (A : AF) (H : AH) : Prop := ∃ (i : Nat), i + m = n ∧ tErr s t m i = tErr s t n 0 ∧ A.tm.n = 32 ∧ A.marks = [] ∧ A.tm.get 16 = .int .i64 (i : Int) ∧ A.tm.get 15 = .int .i64 (n : Int) ∧ A.tm.get 14 = sl2 n ∧ A.tm.get 2 = .pointer (some ⟨3, 0, none⟩) ∧ A.tm.get 6 = .pointer (some ⟨4, 0, none⟩) ∧ H = hpC s t i
noncomputable def Q12 (s : SV) (t : Nat → Int) (n : Nat) (y : AX) (A' : AF) (_ : AH) : Prop := A'.tm.n = 32 ∧ A'.marks = [] ∧ ((y = .exit 0 ∧ tErr s t n 0 = 0) ∨ (y = .ret ∧ A'.tm.get 4 = .int .i64 (tErr s t n 0)))
noncomputable def SV.ct (s : SV) (t : Nat → Int) (n : Nat) : Int := if s.err = 0 then tErr s t n 0 else s.err

set_option maxRecDepth 10000 in
set_option maxHeartbeats 8000000 in
theorem ct_ev (call : Value → List Value → AH → Option (Value × AH)) (s : SV) (t : Nat → Int) (n : Nat) (hn : n ≤ 200) (h29 : ∀ (H : AH), lookB H.bs 0 = some (.ints s.g) → lookB H.bs 1 = some (.ints s.h) → call (.func (.func 63) #[] #[]) [s.val] H = some (.int .i64 s.err, H)) (h31 : ∀ (H : AH), lookB H.bs 0 = some (.ints s.g) → lookB H.bs 1 = some (.ints s.h) → call (.func (.func 80) #[] #[]) [s.val] H = some (.int .i64 s.size, H)) (h30 : ∀ (n l m : Int) (H : AH), call (.func (.func 52) #[] #[]) [.int .i64 n, .int .i64 l, .int .i64 m] H = some (.bool (btw n l m), H)) : ∃ H', evFn (tabT Try.prog) call 300 kpT 83 Try.f83 [s.val, sl2 n] (hpT s t) = some (.int .i64 (s.ct t n), H') := by
  simp only [SV.val] at h29 h31
  unfold SV.ct
  simp only [evFn, Try.f83, SV.val, hpT, sl2]
  by_cases c1 : s.err = 0
  · have c1' : (s.err != 0) = false := by simpa using c1
    have hz : s.rsize = s.size := by simp [SV.rsize, c1]
    have hbn := size_bounds c1
    have hs1 : wrapI .i64 (s.size - 1) = s.size - 1 := wrapI_small (by omega) (by omega)
    rw [if_pos c1]
    simp [ec_skip, ec_label, ek_reg, ek_draw, ek_seq, ec_cond, ek_block, ec_loop, ec_exit, ec_ret, ec_scope, ek_nil, ek_op, opK_some, regK_some, seqK_normal, seqK_exit, seqK_ret, blockK_normal, blockK_exit, blockK_ret, evOp, vOp, hOpB, hOpU, hOp, hOpT, aAppendG_tab, aWanted, aYielded, opd, putT, closedV, aBin, intOp, sameK, mapO, joinR, hasAddr, boundOf, pushB, aAlloc, Value.cells, lookB, setB, Nat.beq_eq, tm_n_set, tm_get_set, tm_of_n, tm_of_get, tm_tr_set, tm_tr_of, cellV, putF, appR_eq, takeR_eq, dropR_eq, setR_eq, getR_eq, ↓C75, ↓C76, ↓C77, ↓C79, ↓C17, ↓C18, ↓C22, ↓C71, FA24_0, FA24_1, FA24_2, FA24_3, FA24_4, FA24_5, FA24_6, FA24_7, FA24_8, LD3, LD4, LD22, LD27, LDr, LD24, LEN22, IA22, tkc, cellAt, SV.cs, hpC, sl2, ↓AL54, ST4, h29, c1]
    rw [seenL_zero t]
    generalize hr : evLoop _ _ _ _ = r
    obtain ⟨y, A', H', rfl, hl, hmk, hx⟩ := loop_go (Q := Q12 s t n) hr (I12 s t n) n (by omega) ⟨0, by omega, rfl, rfl, rfl, rfl, rfl, rfl, rfl, rfl, rfl⟩ (by
      clear hr
      rintro m A H ⟨i, him, hres, hl, hmk, h16, h15, h14, h2, h6, rfl⟩
      simp only [runC]
      cases m with
      | zero =>
        have hi : ¬ i < n := by omega
        rw [tErr] at hres
        simp [ec_skip, ec_label, ek_reg, ek_draw, ek_seq, ec_cond, ek_block, ec_loop, ec_exit, ec_ret, ec_scope, ek_nil, ek_op, opK_some, regK_some, seqK_normal, seqK_exit, seqK_ret, blockK_normal, blockK_exit, blockK_ret, evOp, vOp, hOpB, hOpU, hOp, hOpT, aAppendG_tab, aWanted, aYielded, opd, putT, closedV, aBin, intOp, sameK, mapO, joinR, hasAddr, boundOf, pushB, aAlloc, Value.cells, lookB, setB, Nat.beq_eq, tm_n_set, tm_get_set, tm_of_n, tm_of_get, tm_tr_set, tm_tr_of, cellV, putF, appR_eq, takeR_eq, dropR_eq, setR_eq, getR_eq, ↓C75, ↓C76, ↓C77, ↓C79, ↓C17, ↓C18, ↓C22, ↓C71, FA24_0, FA24_1, FA24_2, FA24_3, FA24_4, FA24_5, FA24_6, FA24_7, FA24_8, LD3, LD4, LD22, LD27, LDr, LD24, LEN22, IA22, tkc, cellAt, SV.cs, hpC, sl2, ↓AL54, ST4, hl, hmk, h16, h15, h14, h2, h6, hi]
        exact .inr ⟨by simp, by simp [tm_n_set, hl], rfl, .inl ⟨rfl, hres.symm⟩⟩
      | succ m =>
        have hi : i < n := by omega
        have hw : wrapI .i64 ((i : Int) + 1) = ((i + 1 : Nat) : Int) := by rw [wrapI_small (by omega) (by omega)]; rfl
        rw [tErr] at hres
        have hb : btw (t i) 0 (s.size - 1) = s.inB (t i) := by simp only [btw, SV.inB, hz]; congr 1; apply decide_eq_decide.2; omega
        cases c2 : s.inB (t i) with
        | false =>
          rw [if_pos c2] at hres
          simp [ec_skip, ec_label, ek_reg, ek_draw, ek_seq, ec_cond, ek_block, ec_loop, ec_exit, ec_ret, ec_scope, ek_nil, ek_op, opK_some, regK_some, seqK_normal, seqK_exit, seqK_ret, blockK_normal, blockK_exit, blockK_ret, evOp, vOp, hOpB, hOpU, hOp, hOpT, aAppendG_tab, aWanted, aYielded, opd, putT, closedV, aBin, intOp, sameK, mapO, joinR, hasAddr, boundOf, pushB, aAlloc, Value.cells, lookB, setB, Nat.beq_eq, tm_n_set, tm_get_set, tm_of_n, tm_of_get, tm_tr_set, tm_tr_of, cellV, putF, appR_eq, takeR_eq, dropR_eq, setR_eq, getR_eq, ↓C75, ↓C76, ↓C77, ↓C79, ↓C17, ↓C18, ↓C22, ↓C71, FA24_0, FA24_1, FA24_2, FA24_3, FA24_4, FA24_5, FA24_6, FA24_7, FA24_8, LD3, LD4, LD22, LD27, LDr, LD24, LEN22, IA22, tkc, cellAt, SV.cs, hpC, sl2, ↓AL54, ST4, hl, hmk, h16, h15, h14, h2, h6, hi, h31, h30, hs1, hb, c2]
          exact .inr ⟨by simp, by simp [tm_n_set, hl], rfl, .inr ⟨rfl, by simp [tm_get_set, tm_n_set, hl, ← hres]⟩⟩
        | true =>
          rw [if_neg (by simp [c2])] at hres
          obtain ⟨k, hk⟩ : ∃ k : Nat, t i = (k : Int) := ⟨(t i).toNat, by simp [SV.inB] at c2; omega⟩
          have hk1 : k < 144 := by
            have := rsize_bounds s
            simp [SV.inB] at c2
            omega
          have hat := seenL_at t i k hk1
          have hix := IA54 4 k hk1
          have hlen := seenL_len t i
          have hbl : Nat.ble (k + 1) 144 = true := by simp [Nat.ble_eq]; omega
          rw [hk] at hb c2 hres
          cases c3 : hasG t i (k : Int) with
          | true =>
            rw [if_pos c3] at hres
            rw [c3] at hat
            simp [ec_skip, ec_label, ek_reg, ek_draw, ek_seq, ec_cond, ek_block, ec_loop, ec_exit, ec_ret, ec_scope, ek_nil, ek_op, opK_some, regK_some, seqK_normal, seqK_exit, seqK_ret, blockK_normal, blockK_exit, blockK_ret, evOp, vOp, hOpB, hOpU, hOp, hOpT, aAppendG_tab, aWanted, aYielded, opd, putT, closedV, aBin, intOp, sameK, mapO, joinR, hasAddr, boundOf, pushB, aAlloc, Value.cells, lookB, setB, Nat.beq_eq, tm_n_set, tm_get_set, tm_of_n, tm_of_get, tm_tr_set, tm_tr_of, cellV, putF, appR_eq, takeR_eq, dropR_eq, setR_eq, getR_eq, ↓C75, ↓C76, ↓C77, ↓C79, ↓C17, ↓C18, ↓C22, ↓C71, FA24_0, FA24_1, FA24_2, FA24_3, FA24_4, FA24_5, FA24_6, FA24_7, FA24_8, LD3, LD4, LD22, LD27, LDr, LD24, LEN22, IA22, tkc, cellAt, SV.cs, hpC, sl2, ↓AL54, ST4, hl, hmk, h16, h15, h14, h2, h6, hi, h31, h30, hs1, hb, c2, hk, hix, hat, c3]
            exact .inr ⟨by simp, by simp [tm_n_set, hl], rfl, .inr ⟨rfl, by simp [tm_get_set, tm_n_set, hl, ← hres]⟩⟩
          | false =>
            rw [if_neg (by simp [c3])] at hres
            rw [c3] at hat
            have hset := seenL_set t i k hk1 hk
            simp [ec_skip, ec_label, ek_reg, ek_draw, ek_seq, ec_cond, ek_block, ec_loop, ec_exit, ec_ret, ec_scope, ek_nil, ek_op, opK_some, regK_some, seqK_normal, seqK_exit, seqK_ret, blockK_normal, blockK_exit, blockK_ret, evOp, vOp, hOpB, hOpU, hOp, hOpT, aAppendG_tab, aWanted, aYielded, opd, putT, closedV, aBin, intOp, sameK, mapO, joinR, hasAddr, boundOf, pushB, aAlloc, Value.cells, lookB, setB, Nat.beq_eq, tm_n_set, tm_get_set, tm_of_n, tm_of_get, tm_tr_set, tm_tr_of, cellV, putF, appR_eq, takeR_eq, dropR_eq, setR_eq, getR_eq, ↓C75, ↓C76, ↓C77, ↓C79, ↓C17, ↓C18, ↓C22, ↓C71, FA24_0, FA24_1, FA24_2, FA24_3, FA24_4, FA24_5, FA24_6, FA24_7, FA24_8, LD3, LD4, LD22, LD27, LDr, LD24, LEN22, IA22, tkc, cellAt, SV.cs, hpC, sl2, ↓AL54, ST4, hl, hmk, h16, h15, h14, h2, h6, hi, h31, h30, hs1, hb, c2, hk, hix, hat, c3, hlen, hbl, hset]
            refine .inl ⟨rfl, m, rfl, i + 1, by omega, hres, ?_⟩
            simp [hpC, SV.cs, sl2, tm_get_set, tm_n_set, hl, h16, h15, h14, h2, h6, hw])
    rcases hx with ⟨rfl, hx⟩ | ⟨rfl, hx⟩
    · simp [ec_skip, ec_label, ek_reg, ek_draw, ek_seq, ec_cond, ek_block, ec_loop, ec_exit, ec_ret, ec_scope, ek_nil, ek_op, opK_some, regK_some, seqK_normal, seqK_exit, seqK_ret, blockK_normal, blockK_exit, blockK_ret, evOp, vOp, hOpB, hOpU, hOp, hOpT, aAppendG_tab, aWanted, aYielded, opd, putT, closedV, aBin, intOp, sameK, mapO, joinR, hasAddr, boundOf, pushB, aAlloc, Value.cells, lookB, setB, Nat.beq_eq, tm_n_set, tm_get_set, tm_of_n, tm_of_get, tm_tr_set, tm_tr_of, cellV, putF, appR_eq, takeR_eq, dropR_eq, setR_eq, getR_eq, ↓C75, ↓C76, ↓C77, ↓C79, ↓C17, ↓C18, ↓C22, ↓C71, FA24_0, FA24_1, FA24_2, FA24_3, FA24_4, FA24_5, FA24_6, FA24_7, FA24_8, LD3, LD4, LD22, LD27, LDr, LD24, LEN22, IA22, tkc, cellAt, hl, hmk, hx, finF, takeM, resV]
    · simp [ec_skip, ec_label, ek_reg, ek_draw, ek_seq, ec_cond, ek_block, ec_loop, ec_exit, ec_ret, ec_scope, ek_nil, ek_op, opK_some, regK_some, seqK_normal, seqK_exit, seqK_ret, blockK_normal, blockK_exit, blockK_ret, evOp, vOp, hOpB, hOpU, hOp, hOpT, aAppendG_tab, aWanted, aYielded, opd, putT, closedV, aBin, intOp, sameK, mapO, joinR, hasAddr, boundOf, pushB, aAlloc, Value.cells, lookB, setB, Nat.beq_eq, tm_n_set, tm_get_set, tm_of_n, tm_of_get, tm_tr_set, tm_tr_of, cellV, putF, appR_eq, takeR_eq, dropR_eq, setR_eq, getR_eq, ↓C75, ↓C76, ↓C77, ↓C79, ↓C17, ↓C18, ↓C22, ↓C71, FA24_0, FA24_1, FA24_2, FA24_3, FA24_4, FA24_5, FA24_6, FA24_7, FA24_8, LD3, LD4, LD22, LD27, LDr, LD24, LEN22, IA22, tkc, cellAt, hl, hmk, hx, finF, takeM, resV]
  · have c1' : (s.err != 0) = true := by simpa using c1
    rw [if_neg c1]
    simp [ec_skip, ec_label, ek_reg, ek_draw, ek_seq, ec_cond, ek_block, ec_loop, ec_exit, ec_ret, ec_scope, ek_nil, ek_op, opK_some, regK_some, seqK_normal, seqK_exit, seqK_ret, blockK_normal, blockK_exit, blockK_ret, evOp, vOp, hOpB, hOpU, hOp, hOpT, aAppendG_tab, aWanted, aYielded, opd, putT, closedV, aBin, intOp, sameK, mapO, joinR, hasAddr, boundOf, pushB, aAlloc, Value.cells, lookB, setB, Nat.beq_eq, tm_n_set, tm_get_set, tm_of_n, tm_of_get, tm_tr_set, tm_tr_of, cellV, putF, appR_eq, takeR_eq, dropR_eq, setR_eq, getR_eq, ↓C75, ↓C76, ↓C77, ↓C79, ↓C17, ↓C18, ↓C22, ↓C71, FA24_0, FA24_1, FA24_2, FA24_3, FA24_4, FA24_5, FA24_6, FA24_7, FA24_8, LD3, LD4, LD22, LD27, LDr, LD24, LEN22, IA22, tkc, cellAt, SV.cs, hpC, sl2, ↓AL54, ST4, h29, c1, c1', finF, takeM, resV]


end

end Go.Proofs.Ytjginpeoblilpaa
