/-
  What is proved: nothing of the program. This text holds what the abstract run does with each kind of operation, one lemma a kind.
-/
import Derived.Test.YtdbpemmhkfbegaaSz
namespace Go.Proofs.Ytdbpemmhkfbegaa
open Go.RowKit
set_option linter.unusedSimpArgs false
set_option linter.unusedVariables false

section
variable {T : TypeId → Option TI} {call : Value → List Value → AH → Option (Value × AH)} {g : Operand → Option Value} {H : AH}

/-- An operation's run, by what it does alone. -/
noncomputable def evO (T : TypeId → Option TI) (call : Value → List Value → AH → Option (Value × AH)) (op : Op) (g : Operand → Option Value) (H : AH) : Option (Value × AH) := evOp T call ⟨none, op, 0, "", #[], none⟩ g H
theorem evOp_evO {d : Option Tmp} {op : Op} {t : TypeId} {p : String} {a : Array Edge} {gd : Option (Nat × Bool)} : evOp T call ⟨d, op, t, p, a, gd⟩ g H = evO T call op g H := rfl

theorem evO_v {op : Op} {v : Value} (h : vOp T g op = some v) : evO T call op g H = some (v, H) := by
  unfold evO evOp; simp only [h]
theorem evO_h {op : Op} {r : Value × AH} (h0 : vOp T g op = none) (h : hOpB T g H op = some r) : evO T call op g H = some r := by
  unfold evO evOp; simp only [h0, h]

theorem evO_move {x : Operand} {v : Value} (h : g x = some v) : evO T call (.move x) g H = some (v, H) := evO_v h
theorem evO_assign {x : Operand} {v : Value} (h : g x = some v) : evO T call (.assign x) g H = some (v, H) := evO_v h

theorem eo_move {x : Operand} : evO T call (.move x) g H = (match g x with | some v => some (v, H) | none => none) := by
  cases h : g x with
  | none => simp [evO, evOp, vOp, h, hOpB, hOpU, hOp, hOpT]
  | some v => exact evO_v h
theorem eo_assign {x : Operand} : evO T call (.assign x) g H = (match g x with | some v => some (v, H) | none => none) := by
  cases h : g x with
  | none => simp [evO, evOp, vOp, h, hOpB, hOpU, hOp, hOpT]
  | some v => exact evO_v h
theorem eo_pick {c a b : Operand} {t : Bool} {u v : Value} (h : g c = some (.bool t)) (ha : g a = some u) (hb : g b = some v) : evO T call (.pick c a b) g H = some (if t then u else v, H) := by
  apply evO_v
  simp only [vOp, h, ha, hb]
  cases t <;> rfl
theorem eo_bin {op : BinOp} {t ty : TypeId} {x y : Operand} {k : IntKind} {a b : Int} {r : Value} (hx : g x = some (.int k a)) (hy : g y = some (.int k b)) (h : aBin T op t (.int k a) (.int k b) = some r) : evO T call (.binOp op t x y ty) g H = some (r, H) := by
  apply evO_v
  simp only [vOp, hx, hy, h]
theorem eo_not {t : TypeId} {x : Operand} {b : Bool} (hx : g x = some (.bool b)) : evO T call (.unOp .not t x) g H = some (.bool (!b), H) := by
  apply evO_v
  simp only [vOp, hx]
theorem eo_fieldAddr {s : TypeId} {x : Operand} {f : Nat} {u r : Value} (hx : g x = some u) (h : aFieldAddr T s u f = some r) : evO T call (.fieldAddr s x f) g H = some (r, H) := by
  apply evO_v
  simp only [vOp, hx, h]
theorem eo_indexAddr {t : TypeId} {x i : Operand} {u v r : Value} (hx : g x = some u) (hi : g i = some v) (h : aIndexAddr T t u v = some r) : evO T call (.indexAddr t x i) g H = some (r, H) := by
  apply evO_v
  simp only [vOp, hx, hi, h]
theorem eo_load {t : TypeId} {x : Operand} {u v : Value} (hx : g x = some u) (h : aLoad T H t u = some v) : evO T call (.load t x) g H = some (v, H) := by
  apply evO_h
  · simp only [vOp]
  · simp only [hOpB, hOpU, hOp, hx, h, Option.map_some]
theorem eo_store {t : TypeId} {x y : Operand} {u v : Value} {H' : AH} (hx : g x = some u) (hy : g y = some v) (h : aStore T H t u v = some H') : evO T call (.store t x y) g H = some (undef, H') := by
  apply evO_h
  · simp only [vOp]
  · simp only [hOpB, hOpU, hOp, hx, hy, h, Option.map_some]
theorem eo_box {t : TypeId} {x : Operand} {v : Value} (hx : g x = some v) : evO T call (.box t x) g H = some (aAlloc H v.cells.toList) := by
  apply evO_h
  · simp only [vOp]
  · simp only [hOpB, hOpU, hOp, hx]
theorem eo_alloc {t : TypeId} {cs : List Value} (h : (T t).map (fun y => (y.ex.ub, y.zero.cells.toList)) = some (false, cs)) : evO T call (.alloc t) g H = some (aAlloc H cs) := by
  apply evO_h
  · simp only [vOp]
  · cases ht : T t with
    | none => rw [ht] at h; cases h
    | some y =>
      rw [ht] at h
      simp only [Option.map_some, Option.some.injEq, Prod.mk.injEq] at h
      simp only [hOpB, ht, h.1, hOp, h.2]
      rfl
theorem eo_len {t : TypeId} {x : Operand} {u v : Value} (hx : g x = some u) (h : aLen T t u = some v) : evO T call (.call ⟨.builtin .len, #[x], #[t]⟩) g H = some (v, H) := by
  apply evO_h
  · simp only [vOp]
  · simp only [hOpB, hOpU, hOp, hx, h]
theorem eo_min {t t' : TypeId} {x y : Operand} {k : IntKind} {a b : Int} (hx : g x = some (.int k a)) (hy : g y = some (.int k b)) : evO T call (.call ⟨.builtin .min, #[x, y], #[t, t']⟩) g H = some (.int k (if b < a then b else a), H) := by
  apply evO_h
  · simp only [vOp]
  · simp only [hOpB, hOpU, hOp, hx, hy]
theorem eo_call1 {f : FuncId} {t : TypeId} {x : Operand} {u : Value} (hf : g (.func f) = some (.func (.func f) #[] #[])) (hx : g x = some u) (hn : (T t).map (fun z => (z.ex.nat f, z.ex.mnz f)) = some (none, none)) :
    evO T call (.call ⟨.value (.func f), #[x], #[t]⟩) g H = call (.func (.func f) #[] #[]) [u] H := by
  cases ht : T t with
  | none => rw [ht] at hn; cases hn
  | some z =>
    rw [ht] at hn
    simp only [Option.map_some, Option.some.injEq, Prod.mk.injEq] at hn
    simp [evO, evOp, vOp, hOpB, hOpU, hOp, hOpT, hf, hx, ht, hn.1, hn.2, mapO, boundOf]
theorem eo_call2 {f : FuncId} {t t' : TypeId} {x y : Operand} {u v : Value} (hf : g (.func f) = some (.func (.func f) #[] #[])) (hx : g x = some u) (hy : g y = some v) (hu : ∀ s, u ≠ .string s) :
    evO T call (.call ⟨.value (.func f), #[x, y], #[t, t']⟩) g H = call (.func (.func f) #[] #[]) [u, v] H := by
  cases u <;> first | (exact absurd rfl (hu _)) | simp [evO, evOp, vOp, hOpB, hOpU, hOp, hOpT, hf, hx, hy, mapO, boundOf]
theorem eo_call2n {f : FuncId} {t t' : TypeId} {x y : Operand} {u v : Value} (hf : g (.func f) = some (.func (.func f) #[] #[])) (hx : g x = some u) (hy : g y = some v) (hn : (T t).map (fun z => z.ex.nat f) = some none) :
    evO T call (.call ⟨.value (.func f), #[x, y], #[t, t']⟩) g H = call (.func (.func f) #[] #[]) [u, v] H := by
  by_cases hu : ∃ s, u = .string s
  · obtain ⟨s, rfl⟩ := hu
    cases ht : T t with
    | none => rw [ht] at hn; cases hn
    | some z =>
      rw [ht] at hn
      simp only [Option.map_some, Option.some.injEq] at hn
      cases v with
      | int k n => cases k <;> simp [evO, evOp, vOp, hOpB, hOpU, hOp, hOpT, hf, hx, hy, ht, hn, mapO, boundOf]
      | _ => simp [evO, evOp, vOp, hOpB, hOpU, hOp, hOpT, hf, hx, hy, ht, hn, mapO, boundOf]
  · exact eo_call2 hf hx hy fun s h => hu ⟨s, h⟩
theorem eo_call3 {f : FuncId} {ts : Array TypeId} {x y z : Operand} {u v w : Value} (hf : g (.func f) = some (.func (.func f) #[] #[])) (hx : g x = some u) (hy : g y = some v) (hz : g z = some w) :
    evO T call (.call ⟨.value (.func f), #[x, y, z], ts⟩) g H = call (.func (.func f) #[] #[]) [u, v, w] H := by
  simp [evO, evOp, vOp, hOpB, hOpU, hOp, hOpT, hf, hx, hy, hz, mapO, boundOf]
theorem eo_call0 {f : FuncId} (hf : g (.func f) = some (.func (.func f) #[] #[])) :
    evO T call (.call ⟨.value (.func f), #[], #[]⟩) g H = call (.func (.func f) #[] #[]) [] H := by
  simp [evO, evOp, vOp, hOpB, hOpU, hOp, hOpT, hf, mapO, boundOf]
end

theorem cvt {T : TypeId → Option TI} {g : Operand → Option Value} {s d : TypeId} {x : Operand} {k : IntKind} (h1 : (T s).isSome = true) (h2 : (T d).map (·.desc) = some (.int k)) :
    vOp T g (.convert s d x) = match g x with | some (.int _ n) => some (.int k (wrapI k n)) | _ => none := by
  cases hs : T s with
  | none => rw [hs] at h1; cases h1
  | some a =>
    cases hd : T d with
    | none => rw [hd] at h2; cases h2
    | some b =>
      rw [hd] at h2
      simp only [Option.map_some, Option.some.injEq] at h2
      cases b with
      | mk a b c e ex =>
        simp only at h2
        subst h2
        simp only [vOp, hs, hd]
        cases hg : g x with
        | none => rfl
        | some v => cases v <;> rfl

theorem tdesc {T : TypeId → Option TI} {t : TypeId} {d : TypeDesc} (h : (T t).map (·.desc) = some d) : ∃ s b z ex, T t = some ⟨s, b, z, d, ex⟩ := by
  cases hd : T t with
  | none => rw [hd] at h; cases h
  | some y =>
    rw [hd] at h
    cases y with
    | mk a b c e ex =>
      simp only [Option.map_some, Option.some.injEq] at h
      subst h
      exact ⟨_, _, _, _, rfl⟩

theorem opd_tmp (tm : Tm) (t : Tmp) : opd tm (.tmp t) = some (tm.get t) := rfl
theorem opd_func (tm : Tm) (f : FuncId) : opd tm (.func f) = some (.func (.func f) #[] #[]) := rfl
theorem opd_int (tm : Tm) (k : IntKind) (n : Int) : opd tm (.const (.int k n)) = some (.int k n) := by simp [opd, closedV]
theorem opd_bool (tm : Tm) (b : Bool) : opd tm (.const (.bool b)) = some (.bool b) := by simp [opd, closedV]

/-- One operation of a region. -/
theorem seq_run {T : TypeId → Option TI} {call : Value → List Value → AH → Option (Value × AH)} {ops : Array Oper} {d : Option Tmp} {op : Op} {t : TypeId} {p : String} {a : Array Edge} {gd : Option (Nat × Bool)} {r : List Oper} {A : AF} {H H' : AH} {v : Value}
    (hw : aWanted ⟨d, op, t, p, a, gd⟩ ops A.tm = true) (h : evO T call op (opd A.tm) H = some (v, H')) : evSeq T call ops (⟨d, op, t, p, a, gd⟩ :: r) A H = evSeq T call ops r { A with tm := putT A.tm d v } H' := by
  simp only [evSeq, hw, if_true, evOp_evO, h]
theorem seq_skip {T : TypeId → Option TI} {call : Value → List Value → AH → Option (Value × AH)} {ops : Array Oper} {o : Oper} {r : List Oper} {A : AF} {H : AH}
    (hw : aWanted o ops A.tm = false) : evSeq T call ops (o :: r) A H = evSeq T call ops r { A with tm := putT A.tm o.dst undef } H := by
  simp only [evSeq, hw, Bool.false_eq_true, if_false]

end Go.Proofs.Ytdbpemmhkfbegaa
