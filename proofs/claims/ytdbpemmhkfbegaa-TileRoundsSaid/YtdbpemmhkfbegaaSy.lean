/-
  What is proved: nothing of the program. This text holds lemmas for runs with unknown values: code piece by piece, temporaries, loops, and answers that are told by a function of the arguments.
-/
import Derived.Test.YtdbpemmhkfbegaaEvS
namespace Go.Proofs.Ytdbpemmhkfbegaa
open Go.RowKit
set_option linter.unusedSimpArgs false
set_option linter.unusedVariables false

theorem loop_ind {F : AF → AH → Option (AX × AF × AH)} {Q : AX → AF → AH → Prop} (I : Nat → AF → AH → Prop)
    (step : ∀ m A H, I m A H → ∃ x A' H', F A H = some (x, A', H') ∧ ((x = .normal ∧ ∃ m', m = m' + 1 ∧ I m' A' H') ∨ (x ≠ .normal ∧ Q x A' H'))) :
    ∀ (m fuel : Nat) (A : AF) (H : AH), m < fuel → I m A H → ∃ x A' H', evLoop F fuel A H = some (x, A', H') ∧ Q x A' H'
  | m, 0, A, H, hm, _ => by omega
  | m, fuel + 1, A, H, hm, hI => by
    obtain ⟨x, A', H', h1, h2⟩ := step m A H hI
    rcases h2 with ⟨rfl, m', rfl, hI'⟩ | ⟨hx, hq⟩
    · obtain ⟨y, A2, H2, h3, h4⟩ := loop_ind I step m' fuel A' H' (by omega) hI'
      exact ⟨y, A2, H2, by simp only [evLoop, h1, h3], h4⟩
    · refine ⟨x, A', H', ?_, hq⟩
      cases x with
      | normal => exact absurd rfl hx
      | exit id => simp only [evLoop, h1]
      | ret => simp only [evLoop, h1]

/-- The run of a loop's body (a name that is not written out). -/
noncomputable def runC (T : TypeId → Option TI) (call : Value → List Value → AH → Option (Value × AH)) (lf : Nat) (fn : FuncId) (rd : Option Nat) (c : Code) (A : AF) (H : AH) : Option (AX × AF × AH) := evCode T call lf fn rd c A H

section
variable {T : TypeId → Option TI} {call : Value → List Value → AH → Option (Value × AH)} {lf : Nat} {fn : FuncId} {rd : Option Nat} {A : AF} {H : AH}
theorem ec_skip : evCode T call lf fn rd .skip A H = some (.normal, A, H) := rfl
theorem ec_label {x} : evCode T call lf fn rd (.label x) A H = some (.normal, A, H) := rfl
theorem ec_reg {i ops} : evCode T call lf fn rd (.region i ops false) A H = match evSeq T call ops ops.toList A H with
    | some (A', H') => some (.normal, A', H')
    | none => none := rfl
theorem ec_draw {i ops} : evCode T call lf fn rd (.region i ops true) A H = match evDrawX T call ops A H with
    | some (A', H') => some (.normal, A', H')
    | none => none := rfl
theorem ec_seq {x y} : evCode T call lf fn rd (.seq x y) A H = match evCode T call lf fn rd x A H with
    | some (.normal, A', H') => evCode T call lf fn rd y A' H'
    | some (.exit id, A', H') => some (.exit id, A', H')
    | some (.ret, A', H') => some (.ret, A', H')
    | none => none := rfl
theorem ec_cond {c x y} : evCode T call lf fn rd (.cond c x y) A H = match opd A.tm c with
    | some (.bool true) => evCode T call lf fn rd x A H
    | some (.bool false) => evCode T call lf fn rd y A H
    | _ => none := rfl
theorem ec_block {id c} : evCode T call lf fn rd (.block id c) A H = match evCode T call lf fn rd c A H with
    | some (.exit id', A', H') => if Nat.beq id' id then some (.normal, A', H') else some (.exit id', A', H')
    | some (.normal, A', H') => some (.normal, A', H')
    | some (.ret, A', H') => some (.ret, A', H')
    | none => none := rfl
theorem ec_loop {c} : evCode T call lf fn rd (.loop c) A H = evLoop (runC T call lf fn rd c) lf A H := rfl
theorem ec_exit {id} : evCode T call lf fn rd (.exit id) A H = some (.exit id, A, H) := rfl
theorem ec_ret : evCode T call lf fn rd .ret A H = some (.ret, A, H) := rfl
theorem ec_scope {c} : evCode T call lf fn rd (.scope c) A H = evCode T call lf fn rd c A H := rfl
end

theorem tm_n_set (t : Tm) (i : Nat) (v : Value) : (t.set i v).n = t.n := by
  rw [Tm.set_if]; split <;> rfl
theorem tm_get_set (t : Tm) (i j : Nat) (v : Value) (h : i < t.n) : (t.set i v).get j = if j = i then v else t.get j := by
  rw [Tm.get_eq, Tm.list_set, Tm.get_eq, List.getElem?_set, Tm.list_length]
  by_cases e : i = j
  · subst e; simp [h]
  · have e' : ¬ j = i := fun h => e h.symm
    simp [e, e']
theorem tm_of_n (l : List Value) (n : Nat) : (Tm.of l n).n = l.length + (n - l.length) := rfl
theorem tm_of_get (l : List Value) (n j : Nat) : (Tm.of l n).get j = (l[j]?).getD undefV := by
  rw [Tm.get_eq, Tm.list_of, List.getElem?_append]
  split
  · rfl
  · rename_i h
    rw [List.getElem?_replicate, List.getElem?_eq_none (by omega)]
    split <;> rfl

theorem tm_tr_set (t : Tm) (i j : Nat) (v : Value) (h : i < t.n) : (t.set i v).tr.get j = if j = i then v else t.tr.get j := by
  rw [Tm.set_if, if_pos (by simpa [Nat.blt_eq] using h)]
  exact Tr.get_set _ _ _ _ _ (Nat.lt_succ_self i)
theorem tm_tr_of (l : List Value) (n j : Nat) : (Tm.of l n).tr.get j = if j < l.length then (l[j]?).getD undefV else undefV := by
  show (Tr.ofL l 0 .lf).get j = _
  rw [Tr.get_ofL]
  simp only [Nat.zero_le, true_and, Nat.zero_add, Nat.sub_zero]
  rfl

theorem wrapI_small {n : Int} (h1 : -9223372036854775808 ≤ n) (h2 : n ≤ 9223372036854775807) : wrapI .i64 n = n := by
  simp only [wrapI]
  omega

/-- What a round of a loop has come to. -/
def LStep (I : Nat → AF → AH → Prop) (Q : AX → AF → AH → Prop) (m : Nat) (r : AX × AF × AH) : Prop :=
  (r.1 = .normal ∧ ∃ m', m = m' + 1 ∧ I m' r.2.1 r.2.2) ∨ (r.1 ≠ .normal ∧ Q r.1 r.2.1 r.2.2)

theorem loop_go {F : AF → AH → Option (AX × AF × AH)} {fuel : Nat} {A0 : AF} {H1 : AH} {r : Option (AX × AF × AH)} (hr : evLoop F fuel A0 H1 = r) {Q : AX → AF → AH → Prop} (I : Nat → AF → AH → Prop) (m : Nat) (hm : m < fuel) (hI : I m A0 H1)
    (step : ∀ m A H, I m A H → ∃ r, F A H = some r ∧ LStep I Q m r) : ∃ x A' H', r = some (x, A', H') ∧ Q x A' H' := by
  obtain ⟨x, A', H', h1, h2⟩ := loop_ind (Q := Q) I (fun m A H h => let ⟨⟨x, A', H'⟩, h1, h2⟩ := step m A H h; ⟨x, A', H', h1, h2⟩) m fuel A0 H1 hm hI
  exact ⟨x, A', H', by rw [← hr, h1], h2⟩

/-- An answer that is told by a function of the arguments, over a small memory of their own. -/
noncomputable def canH (f : FuncId) (ans : List Value → AH → Option Value) : Value → List Value → AH → Option (Value × AH) := fun fv args H =>
  match fv with
  | .func (.func f') ⟨[]⟩ ⟨[]⟩ =>
    if Nat.beq f' f then
      match canon args H with
      | some (cargs, Hc) => match ans cargs Hc with
        | some v => some (v, H)
        | none => none
      | none => none
    else none
  | _ => none

def AnsOK (call0 : Value → List Value → AH → Option (Value × AH)) (f : FuncId) (ans : List Value → AH → Option Value) : Prop :=
  ∀ cargs Hc v, ans cargs Hc = some v → closedV 5 v = true ∧ (Real cargs Hc → ∃ H', call0 (.func (.func f) #[] #[]) cargs Hc = some (v, H'))

theorem canH_ok {P : Program} {call0 : Value → List Value → AH → Option (Value × AH)} (hC : CallOK P call0) {f : FuncId} {ans : List Value → AH → Option Value} (ha : AnsOK call0 f ans) : CallOK P (canH f ans) := by
  intro fv args H v H' h
  unfold canH at h
  split at h
  · rename_i f'
    split at h
    · rename_i hf
      split at h
      · rename_i cargs Hc hcan
        split at h
        · rename_i v' he
          cases h
          have hff : f' = f := Nat.eq_of_beq_eq_true hf
          subst hff
          obtain ⟨hv, hcall⟩ := ha _ _ _ he
          refine ⟨Nat.le_refl _, fun B ρ w fv' args' hfv hargs hH _ => ?_⟩
          obtain ⟨n, fr, g1, g2, g3⟩ := transfer hC hcan hcall hv hargs hH
          cases hfv with
          | func hs _ =>
            have hc' := Array.eq_empty_of_size_eq_zero hs.symm
            subst hc'
            refine ⟨.func f', #[], n, fr, rfl, g1, g2, fun c cs => ?_⟩
            obtain ⟨w', st, hvv, hH', hb⟩ := g3 c cs
            exact ⟨ρ, w', v, st, hvv, Ext.refl ρ, fun _ _ => rfl, hH', hb.mono hH.hB⟩
        · cases h
      · cases h
    · cases h
  · cases h

end Go.Proofs.Ytdbpemmhkfbegaa
