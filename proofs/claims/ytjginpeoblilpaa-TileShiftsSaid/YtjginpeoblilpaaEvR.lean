/-
  What is proved: nothing of the program. This text lays the tables of this translation for the evaluator.
-/
import Derived.Test.YtjginpeoblilpaaEvQ
import Derived.Test.YtjginpeoblilpaaProg
namespace Go.Proofs.Ytjginpeoblilpaa
open Go.RowKit
set_option linter.unusedSimpArgs false
set_option linter.unusedVariables false

noncomputable def methT (i : TypeInfo) (name : String) : Option (FuncId × Bool) :=
  match i.methods.find? (·.name == name) with
  | some m => if Nat.beq m.path.size 0 then m.func else none
  | none => none

/-- A method, with the way to what it is called of. -/
noncomputable def mpT (i : TypeInfo) (name : String) : Option (List FieldStep × FuncId × Bool) :=
  match i.methods.find? (·.name == name) with
  | some m => match m.func with
    | some (f, b) => some (m.path.toList, f, b)
    | none => none
  | none => none

/-- The number of a function of the library without a text, by its name. -/
noncomputable def natNo (name : String) : Option Nat :=
  if name == "internal/bytealg.CountString" then some 0 else if name == "internal/bytealg.IndexByteString" then some 1 else if name == "internal/abi.NoEscape" then some 2 else none

noncomputable def natT (P : Program) (f : FuncId) : Option Nat :=
  match P.funcs[f]? with
  | some fn => if fn.body.isNone && fn.origin == "" then natNo fn.name else none
  | none => none

theorem natT_ok {P : Program} {f : FuncId} {n : Nat} (h : natT P f = some n) :
    ∃ fn e, P.funcs[f]? = some fn ∧ (fn.name == "runtime.NumGoroutine") = false ∧ fn.body.isNone = true ∧ Extern.findNext fn = none ∧ Extern.find fn = some e ∧ natRow n = some e := by
  unfold natT at h
  split at h
  · rename_i fn hfn
    split at h
    · rename_i hc
      simp only [Bool.and_eq_true, beq_iff_eq] at hc
      obtain ⟨hb, ho⟩ := hc
      have n0 : Extern.allNextRows.lookup "" = none := by kernel_rfl
      unfold natNo at h
      split at h
      · rename_i hn
        have hn' : fn.name = "internal/bytealg.CountString" := by simpa using hn
        cases h
        have n1 : Extern.allNextRows.lookup "internal/bytealg.CountString" = none := by kernel_rfl
        have g1 : Extern.allGenericRows.lookup "internal/bytealg.CountString" = none := by kernel_rfl
        have t1 : Extern.allTypedRows.lookup "internal/bytealg.CountString" = none := by kernel_rfl
        have r1 : Extern.allRows.lookup "internal/bytealg.CountString" = some Extern.BytealgCount.count := by kernel_rfl
        exact ⟨fn, _, hfn, by rw [hn']; decide, hb, by simp [Extern.findNext, hn', ho, n1, n0], by simp [Extern.find, hn', g1, t1, r1], rfl⟩
      · split at h
        · rename_i hn
          have hn' : fn.name = "internal/bytealg.IndexByteString" := by simpa using hn
          cases h
          have n1 : Extern.allNextRows.lookup "internal/bytealg.IndexByteString" = none := by kernel_rfl
          have g1 : Extern.allGenericRows.lookup "internal/bytealg.IndexByteString" = none := by kernel_rfl
          have t1 : Extern.allTypedRows.lookup "internal/bytealg.IndexByteString" = none := by kernel_rfl
          have r1 : Extern.allRows.lookup "internal/bytealg.IndexByteString" = some Extern.BytealgIndexByte.indexByte := by kernel_rfl
          exact ⟨fn, _, hfn, by rw [hn']; decide, hb, by simp [Extern.findNext, hn', ho, n1, n0], by simp [Extern.find, hn', g1, t1, r1], rfl⟩
        · split at h
          · rename_i hn
            have hn' : fn.name = "internal/abi.NoEscape" := by simpa using hn
            cases h
            have n1 : Extern.allNextRows.lookup "internal/abi.NoEscape" = none := by kernel_rfl
            have g1 : Extern.allGenericRows.lookup "internal/abi.NoEscape" = none := by kernel_rfl
            have t1 : Extern.allTypedRows.lookup "internal/abi.NoEscape" = none := by kernel_rfl
            have r1 : Extern.allRows.lookup "internal/abi.NoEscape" = some Extern.AbiNoEscape.same := by kernel_rfl
            exact ⟨fn, _, hfn, by rw [hn']; decide, hb, by simp [Extern.findNext, hn', ho, n1, n0], by simp [Extern.find, hn', g1, t1, r1], rfl⟩
          · cases h
    · cases h
  · cases h

/-- The library's function that makes bytes: the type of their row. -/
noncomputable def mnzT (P : Program) (f : FuncId) : Option TypeId :=
  match P.funcs[f]? with
  | some fn => if fn.name == "internal/bytealg.MakeNoZero" && fn.body.isNone && fn.origin == "" then
      match fn.resultTypes with
      | ⟨[r]⟩ => match P.underlying r with
        | some (.slice e) => some e
        | _ => none
      | _ => none
    else none
  | none => none

theorem mnzT_ok {P : Program} {f : FuncId} {e : TypeId} (h : mnzT P f = some e) :
    ∃ fn ps r, P.funcs[f]? = some fn ∧ (fn.name == "runtime.NumGoroutine") = false ∧ fn.body.isNone = true ∧ Extern.findNext fn = none ∧ Extern.find fn = some (Extern.BytealgMakeNoZero.makeNoZero ps #[r]) ∧ P.underlying r = some (.slice e) := by
  unfold mnzT at h
  split at h
  · rename_i fn hfn
    split at h
    · rename_i hc
      simp only [Bool.and_eq_true, beq_iff_eq] at hc
      obtain ⟨⟨hn', hb⟩, ho⟩ := hc
      split at h
      · rename_i r hr
        split at h
        · rename_i e' hu
          cases h
          have n0 : Extern.allNextRows.lookup "" = none := by kernel_rfl
          have n1 : Extern.allNextRows.lookup "internal/bytealg.MakeNoZero" = none := by kernel_rfl
          have g1 : Extern.allGenericRows.lookup "internal/bytealg.MakeNoZero" = none := by kernel_rfl
          have t1 : Extern.allTypedRows.lookup "internal/bytealg.MakeNoZero" = some Extern.BytealgMakeNoZero.makeNoZero := by kernel_rfl
          exact ⟨fn, fn.params, r, hfn, by rw [hn']; decide, hb, by simp [Extern.findNext, hn', ho, n1, n0], by simp [Extern.find, hn', g1, t1, hr], hu⟩
        · cases h
      · cases h
    · cases h
  · cases h

noncomputable def tabT (P : Program) (t : TypeId) : Option TI :=
  match P.info? t, P.underlying t with
  | some i, some d =>
    match i.zero with
    | some z => if closedV 6 z && Nat.beq z.cells.size i.size then some ⟨i.size, i.bytes, z, d, ⟨aggD d && !P.stoodInHeld t && !P.eqGuardType P.depth t, methT i, i.comparable, natT P, fun want => hasAll want i.methods, ubT t, fun ty cells off => liesAt P P.depth ty (cells / P.cellsOf ty) off t 1, mnzT P, mpT i, false⟩⟩ else none
    | none => none
  | _, _ => none

theorem frOf_tab (P : Program) (t : TypeId) : frOf (tabT P) t = false := by
  unfold frOf tabT
  split
  · rename_i z hz
    split at hz
    · split at hz
      · split at hz
        · cases hz; rfl
        · cases hz
      · cases hz
    · cases hz
  · rfl
theorem aAppendG_tab (P : Program) (H : AH) (t : TypeId) (s x : Value) : aAppendG (tabT P) H t s x = aAppend (tabT P) H t s x := by
  simp only [aAppendG, frOf_tab, Bool.false_eq_true, if_false]

theorem tabT_ok (P : Program) : TOk P (tabT P) := by
  intro t x h
  unfold tabT at h
  split at h
  · rename_i i d hi hd
    split at h
    · rename_i z hz
      split at h
      · rename_i hc
        simp only [Bool.and_eq_true] at hc
        cases h
        refine ⟨⟨i, hi, rfl, rfl, hz⟩, hd, hc.1, Nat.eq_of_beq_eq_true hc.2, fun h => ?_, fun name f b hm => ?_, fun h => ?_, fun f n hn => natT_ok hn, ⟨i, hi, fun _ => rfl⟩, fun _ _ _ h => h, fun f e h => mnzT_ok h, fun name path f b hm => ?_⟩
        · simp only [TI.eqOk, Bool.and_eq_true, Bool.not_eq_true'] at h
          exact ⟨h.1.2, h.2⟩
        · simp only [TI.meth, methT] at hm
          split at hm
          · rename_i m hf
            split at hm
            · rename_i hp
              exact ⟨i, m, hi, hf, Array.eq_empty_of_size_eq_zero (Nat.eq_of_beq_eq_true hp), hm⟩
            · cases hm
          · cases hm
        · have hcm : i.comparable = true := h
          rw [hi]; simp [hcm]
        · simp only [mpT] at hm
          split at hm
          · rename_i m hf
            split at hm
            · rename_i f' b' hm'
              cases hm
              exact ⟨i, m, hi, hf, rfl, hm'⟩
            · cases hm
          · cases hm
      · cases h
    · cases h
  · cases h

noncomputable def tabF (P : Program) (f : FuncId) : Option Func :=
  match P.funcs[f]? with
  | some fn => if fn.name == "runtime.NumGoroutine" then none else some fn
  | none => none

theorem tabF_ok (P : Program) : FOk P (tabF P) := by
  intro f fn h
  unfold tabF at h
  split at h
  · rename_i g hg
    split at h
    · cases h
    · rename_i hn
      cases h
      exact ⟨hg, by simpa using hn⟩
  · cases h

theorem mixed : Try.prog.follows .mixedOrders = true := by kernel_rfl

end Go.Proofs.Ytjginpeoblilpaa
