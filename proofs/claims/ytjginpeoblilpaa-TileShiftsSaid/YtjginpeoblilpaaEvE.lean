/-
  What is proved: nothing of the program. This text holds all operations that touch no memory, and that the model's operations do the same.
-/
import Derived.Test.YtjginpeoblilpaaEvD
namespace Go.Proofs.Ytjginpeoblilpaa
open Go.RowKit
set_option linter.unusedSimpArgs false
set_option linter.unusedVariables false

noncomputable def natV : Value → Option Nat
  | .int _ (.ofNat n) => some n
  | _ => none

theorem natV_spec {v : Value} {n : Nat} (h : natV v = some n) : ∃ k, v = .int k (n : Int) := by
  unfold natV at h
  split at h
  · cases h; exact ⟨_, rfl⟩
  · cases h

noncomputable def bnd : Option Value → Nat → Option Nat
  | none, d => some d
  | some v, _ => natV v

theorem run_bounds {P : Program} {s : Bool} {len cap l h : Nat} {lo hi : Option Value} (hlo : bnd lo 0 = some l) (hhi : bnd hi len = some h) (h1 : l ≤ h) (h2 : h ≤ cap) (w : World) :
    (Instr.sliceBounds s len cap lo hi none).run P w = .ok (l, h, cap) w := by
  have e1 : (match lo with | some v => Instr.sliceBound v h .sliceB | none => pure 0 : Sem Nat).run P w = .ok l w := by
    cases lo with
    | none => simp only [bnd, Option.some.injEq] at hlo; subst hlo; rfl
    | some v =>
      obtain ⟨k, rfl⟩ := natV_spec (by simpa [bnd] using hlo)
      simpa using run_sliceBound (P := P) w k (l : Int) h .sliceB (by omega) (by omega)
  have e2 : (match hi with | some v => Instr.sliceBound v cap (if s then .sliceAcap else .sliceAlen) | none => pure len : Sem Nat).run P w = .ok h w := by
    cases hi with
    | none => simp only [bnd, Option.some.injEq] at hhi; subst hhi; rfl
    | some v =>
      obtain ⟨k, rfl⟩ := natV_spec (by simpa [bnd] using hhi)
      simpa using run_sliceBound (P := P) w k (h : Int) cap _ (by omega) (by omega)
  unfold Instr.sliceBounds
  simp only [Sem.run_bind, Sem.run_pure, Result.andThen_ok, Option.isSome_none, Bool.false_eq_true, if_false]
  cases lo <;> cases hi <;> simp_all

/-- A part of a slice or of a string. -/
noncomputable def aSlice (T : TypeId → Option TI) (t : TypeId) (x : Value) (lo hi : Option Value) : Option Value :=
  match x with
  | .slice (some ⟨i, off, none⟩) len sz =>
    match T t with
    | some { desc := .slice e, .. } =>
      match T e with
      | some y =>
        match bnd lo 0, bnd hi len with
        | some l, some h =>
          if Nat.beq y.size sz && Nat.ble l h && Nat.ble h len then
            (if Nat.beq l 0 then some (.slice (some ⟨i, off, none⟩) h sz) else if Nat.beq h l then some (.slice (some ⟨0, 0, some 0⟩) 0 sz) else some (.slice (some ⟨i, off + l * sz, none⟩) (h - l) sz))
          else none
        | _, _ => none
      | none => none
    | _ => none
  | .slice (some ⟨i, off, some 2⟩) len sz =>
    match T t with
    | some { desc := .slice e, .. } =>
      match T e with
      | some y =>
        match bnd lo 0, bnd hi len with
        | some l, some h =>
          if Nat.beq y.size sz && Nat.ble l h && Nat.ble h len then
            (if Nat.beq l 0 then some (.slice (some ⟨i, off, some 2⟩) h sz) else if Nat.beq h l then some (.slice (some ⟨0, 0, some 0⟩) 0 sz) else some (.slice (some ⟨i, off + l * sz, some 2⟩) (h - l) sz))
          else none
        | _, _ => none
      | none => none
    | _ => none
  | .slice (some ⟨i, 0, some 1⟩) len 0 =>
    match T t with
    | some { desc := .slice e, .. } =>
      match T e with
      | some _ => match bnd lo 0, bnd hi len with
        | some 0, some h => if Nat.ble h len then some (.slice (some ⟨i, 0, some 1⟩) h 0) else none
        | _, _ => none
      | none => none
    | _ => none
  | .slice (some ⟨0, 0, some 0⟩) 0 sz =>
    match T t with
    | some { desc := .slice e, .. } =>
      match T e with
      | some _ => match bnd lo 0, bnd hi 0 with
        | some 0, some 0 => some (.slice (some ⟨0, 0, some 0⟩) 0 sz)
        | _, _ => none
      | none => none
    | _ => none
  | .slice none 0 0 =>
    match T t with
    | some { desc := .slice e, .. } =>
      match T e with
      | some _ => match bnd lo 0, bnd hi 0 with
        | some 0, some 0 => some (.slice none 0 0)
        | _, _ => none
      | none => none
    | _ => none
  | .string s =>
    match T t with
    | some { desc := .string, .. } =>
      match bnd lo 0, bnd hi s.size with
      | some l, some h => if Nat.ble l h && Nat.ble h s.size then strPart s l h else none
      | _, _ => none
    | _ => none
  | _ => none

theorem run_slice_gen {P : Program} {T : TypeId → Option TI} (hT : TOk P T) {t e : TypeId} {x y : TI} (hx : T t = some x) (hd : x.desc = .slice e) (hy : T e = some y) {a : Option Addr} {len cap l h : Nat} {lo hi : Option Value}
    (hlo : bnd lo 0 = some l) (hhi : bnd hi len = some h) (h1 : l ≤ h) (h2 : h ≤ cap) (w : World) :
    (Instr.sliceAt t (.slice a len cap) lo hi none).run P w = .ok (.slice (if cap = l then a else a.map (·.add (l * y.size))) (h - l) (cap - l)) w := by
  have hu := run_underlying (hT.under hx) w
  rw [hd] at hu
  simp only [Instr.sliceAt, Sem.run_bind, hu, Result.andThen_ok, Instr.slice, run_bounds hlo hhi h1 h2, hT.size hy w, Sem.run_pure]

theorem aSlice_sound {P : Program} {T : TypeId → Option TI} (hT : TOk P T) {t : TypeId} {x v x' : Value} {lo hi : Option Value} (h : aSlice T t x lo hi = some v) {ρ : BMap} (hx : VRel ρ x x') (w : World) :
    ∃ u, (Instr.sliceAt t x' lo hi none).run P w = .ok u w ∧ VRel ρ v u := by
  unfold aSlice at h
  split at h
  · -- a slice
    rename_i i off len sz
    split at h
    · rename_i e _ _ _ _ ht
      split at h
      · rename_i y hy
        split at h
        · rename_i l hh hlo hhi
          split at h
          · rename_i hc
            simp only [Bool.and_eq_true, Nat.beq_eq, Nat.ble_eq] at hc
            obtain ⟨⟨rfl, h1⟩, h2⟩ := hc
            cases hx with
            | slice hρ hl htot =>
              rename_i b o tot cap
              refine ⟨_, run_slice_gen hT ht rfl hy hlo hhi h1 (by omega) w, ?_⟩
              split at h
              · rename_i h0
                have h0' : l = 0 := Nat.eq_of_beq_eq_true h0
                subst h0'
                cases h
                have e1 : (if cap = 0 then some (⟨b, o + off, none⟩ : Addr) else Option.map (fun z : Addr => z.add (0 * y.size)) (some ⟨b, o + off, none⟩)) = some ⟨b, o + off, none⟩ := by
                  split <;> simp [Addr.add]
                rw [e1]
                exact .slice hρ (by omega) (by simpa using htot)
              · split at h
                · rename_i h0
                  have h0' : hh = l := Nat.eq_of_beq_eq_true h0
                  subst h0'
                  cases h
                  simp only [Nat.sub_self]
                  split <;> exact .sempty
                · rename_i hn0 hnl
                  cases h
                  have hl0 : ¬ l = 0 := fun e => hn0 (by simp [e])
                  have hlh : ¬ hh = l := fun e => hnl (by simp [e])
                  have hc : ¬ cap = l := by omega
                  rw [if_neg hc]
                  simp only [Option.map_some, addr_add]
                  rw [Nat.add_assoc]
                  refine .slice hρ (by omega) ?_
                  have : l * y.size + (cap - l) * y.size = cap * y.size := by rw [← Nat.add_mul]; congr 1; omega
                  omega
          · cases h
        · cases h
      · cases h
    · cases h
  · -- a slice of a variable
    rename_i i off len sz
    split at h
    · rename_i e _ _ _ _ ht
      split at h
      · rename_i y hy
        split at h
        · rename_i l hh hlo hhi
          split at h
          · rename_i hc
            simp only [Bool.and_eq_true, Nat.beq_eq, Nat.ble_eq] at hc
            obtain ⟨⟨rfl, h1⟩, h2⟩ := hc
            cases hx with
            | gsl hl =>
              rename_i cap
              refine ⟨_, run_slice_gen hT ht rfl hy hlo hhi h1 (by omega) w, ?_⟩
              split at h
              · rename_i h0
                have h0' : l = 0 := Nat.eq_of_beq_eq_true h0
                subst h0'
                cases h
                have e1 : (if cap = 0 then some (⟨i, off, none⟩ : Addr) else Option.map (fun z : Addr => z.add (0 * y.size)) (some ⟨i, off, none⟩)) = some ⟨i, off, none⟩ := by
                  split <;> simp [Addr.add]
                rw [e1]
                exact .gsl (by omega)
              · split at h
                · rename_i h0
                  have h0' : hh = l := Nat.eq_of_beq_eq_true h0
                  subst h0'
                  cases h
                  simp only [Nat.sub_self]
                  split <;> exact .sempty
                · rename_i hn0 hnl
                  cases h
                  have hl0 : ¬ l = 0 := fun e => hn0 (by simp [e])
                  have hlh : ¬ hh = l := fun e => hnl (by simp [e])
                  have hc : ¬ cap = l := by omega
                  rw [if_neg hc]
                  simp only [Option.map_some, addr_add]
                  exact .gsl (by omega)
          · cases h
        · cases h
      · cases h
    · cases h
  · -- a part from the beginning of a list that is told apart
    rename_i i len
    split at h
    · rename_i e _ _ _ _ ht
      split at h
      · rename_i y hy
        split at h
        · rename_i hh hlo hhi
          split at h
          · rename_i hc
            have hc' : hh ≤ len := by simpa [Nat.ble_eq] using hc
            cases h
            cases hx with
            | rnil =>
              obtain rfl : hh = 0 := by omega
              exact ⟨_, run_slice_gen hT ht rfl hy hlo hhi (Nat.le_refl _) (Nat.zero_le _) w, by simpa using VRel.rnil⟩
            | rnone =>
              obtain rfl : hh = 0 := by omega
              refine ⟨_, run_slice_gen hT ht rfl hy hlo hhi (Nat.le_refl _) (Nat.zero_le _) w, ?_⟩
              split <;> exact .rnone
            | rsl hρ hl htot =>
              rename_i b o tot cap
              refine ⟨_, run_slice_gen hT ht rfl hy hlo hhi (Nat.zero_le _) (by omega) w, ?_⟩
              have e1 : (if cap = 0 then some (⟨b, o, none⟩ : Addr) else Option.map (fun z : Addr => z.add (0 * y.size)) (some ⟨b, o, none⟩)) = some ⟨b, o, none⟩ := by
                split <;> simp [Addr.add]
              rw [e1]
              exact .rsl hρ (by omega) (by omega)
          · cases h
        · cases h
      · cases h
    · cases h
  · rename_i sz
    split at h
    · rename_i e _ _ _ _ ht
      split at h
      · rename_i y hy
        split at h
        · rename_i hlo hhi
          cases h
          cases hx with
          | sempty =>
            refine ⟨_, run_slice_gen hT ht rfl hy hlo hhi (Nat.le_refl _) (Nat.zero_le _) w, ?_⟩
            split <;> exact .sempty
        · cases h
      · cases h
    · cases h
  · split at h
    · rename_i e _ _ _ _ ht
      split at h
      · rename_i y hy
        split at h
        · rename_i hlo hhi
          cases h
          cases hx
          refine ⟨_, run_slice_gen hT ht rfl hy hlo hhi (Nat.le_refl _) (Nat.zero_le _) w, ?_⟩
          exact .snil
        · cases h
      · cases h
    · cases h
  · rename_i s
    split at h
    · rename_i _ _ _ _ ht
      split at h
      · rename_i l hh hlo hhi
        split at h
        · rename_i hc
          simp only [Bool.and_eq_true, Nat.ble_eq] at hc
          rw [strPart_eq] at h
          cases h
          cases hx
          have hu := run_underlying (hT.under ht) w
          refine ⟨_, ?_, .string _⟩
          simp only [Instr.sliceAt, Sem.run_bind, hu, Result.andThen_ok, Instr.slice, Option.isSome_none, Bool.false_eq_true, if_false, run_bounds hlo hhi hc.1 hc.2, Sem.run_pure]
        · cases h
      · cases h
    · cases h
  · cases h

/-- Addresses. -/
noncomputable def aFieldAddr (T : TypeId → Option TI) (s : TypeId) (x : Value) (f : Nat) : Option Value :=
  match x with
  | .pointer (some ⟨i, off, none⟩) =>
    match T s with
    | some { desc := .struct fields, .. } =>
      match fields[f]? with
      | some fd => match T fd.type with
        | some y => if Nat.beq y.size 0 then none else some (.pointer (some ⟨i, off + fd.offset, none⟩))
        | none => none
      | none => none
    | _ => none
  | _ => none

theorem aFieldAddr_sound {P : Program} {T : TypeId → Option TI} (hT : TOk P T) {s : TypeId} {x v x' : Value} {f : Nat} (h : aFieldAddr T s x f = some v) {ρ : BMap} (hx : VRel ρ x x') (w : World) :
    ∃ u, (Instr.fieldAt s x' f).run P w = .ok u w ∧ VRel ρ v u := by
  unfold aFieldAddr at h
  split at h
  · split at h
    · rename_i _ _ _ fields _ hs
      split at h
      · rename_i fd hf
        split at h
        · rename_i y hy
          split at h
          · cases h
          · rename_i h0
            cases h
            have h0' : ¬ y.size = 0 := fun e => h0 (by simp [e])
            cases hx with
            | ptr hρ =>
              rename_i b o tot
              refine ⟨.pointer (some ⟨b, o + (_ + fd.offset), none⟩), ?_, .ptr hρ⟩
              simp only [Instr.fieldAt, Sem.run_bind, run_underlying (hT.under hs) w, Result.andThen_ok, hf, Instr.sureAddr, Sem.run_pure, fieldPlace, hT.size hy w, h0', if_false, addr_add, Nat.add_assoc]
        · cases h
      · cases h
    · cases h
  · cases h

noncomputable def aIndexAddr (T : TypeId → Option TI) (t : TypeId) (x ix : Value) : Option Value :=
  match natV ix, T t with
  | some n, some { desc := .slice e, .. } =>
    match T e, x with
    | some y, .slice (some ⟨i, off, none⟩) len _ => if Nat.blt n len then some (.pointer (some ⟨i, off + n * y.size, none⟩)) else none
    | some y, .slice (some ⟨i, off, some 2⟩) len _ => if Nat.blt n len then some (.pointer (some ⟨i, off + n * y.size, some 2⟩)) else none
    | some y, .slice (some ⟨i, 0, some 1⟩) len 0 => if Nat.blt n len && Nat.beq y.size 1 then some (.pointer (some ⟨i, n, some 1⟩)) else none
    | _, _ => none
  | some n, some { desc := .array len e, .. } =>
    match T e, x with
    | some y, .pointer (some ⟨i, off, none⟩) => if Nat.blt n len then some (.pointer (some ⟨i, off + n * y.size, none⟩)) else none
    | some y, .pointer (some ⟨i, off, some 2⟩) => if Nat.blt n len then some (.pointer (some ⟨i, off + n * y.size, some 2⟩)) else none
    | _, _ => none
  | _, _ => none

theorem aIndexAddr_sound {P : Program} {T : TypeId → Option TI} (hT : TOk P T) {t : TypeId} {x ix v x' : Value} (h : aIndexAddr T t x ix = some v) {ρ : BMap} (hx : VRel ρ x x') (w : World) :
    ∃ u, (Instr.indexAt t x' ix).run P w = .ok u w ∧ VRel ρ v u := by
  unfold aIndexAddr at h
  split at h
  · rename_i n e _ _ _ _ hn ht
    obtain ⟨k, rfl⟩ := natV_spec hn
    split at h
    · rename_i y i off len sz hy
      split at h
      · rename_i hlt
        have hlt' : n < len := by simpa [Nat.blt_eq] using hlt
        cases h
        cases hx with
        | slice hρ hl htot =>
          rename_i b o tot cap
          refine ⟨.pointer (some ⟨b, o + (off + n * y.size), none⟩), ?_, .ptr hρ⟩
          have hb : (0 : Int) ≤ (n : Int) ∧ (n : Int) < (len : Int) := by omega
          simp only [Instr.indexAt, asIntOf, Sem.run_bind, Sem.run_pure, Result.andThen_ok, run_underlying (hT.under ht) w]
          simp [hb, hT.size hy w, addr_add, Nat.add_assoc]
      · cases h
    · rename_i y i off len sz hy
      split at h
      · rename_i hlt
        have hlt' : n < len := by simpa [Nat.blt_eq] using hlt
        cases h
        cases hx with
        | gsl hl =>
          refine ⟨.pointer (some ⟨i, off + n * y.size, none⟩), ?_, .gptr⟩
          have hb : (0 : Int) ≤ (n : Int) ∧ (n : Int) < (len : Int) := by omega
          simp only [Instr.indexAt, asIntOf, Sem.run_bind, Sem.run_pure, Result.andThen_ok, run_underlying (hT.under ht) w]
          simp [hb, hT.size hy w, addr_add, Nat.add_assoc]
      · cases h
    · rename_i y i len hy
      split at h
      · rename_i hlt
        simp only [Bool.and_eq_true] at hlt
        have hlt' : n < len := by simpa [Nat.blt_eq] using hlt.1
        have hsz : y.size = 1 := Nat.eq_of_beq_eq_true hlt.2
        cases h
        cases hx with
        | rnil => omega
        | rnone => omega
        | rsl hρ hl htot =>
          rename_i b o tot cap
          refine ⟨.pointer (some ⟨b, o + n, none⟩), ?_, .rptr hρ (by omega)⟩
          have hb : (0 : Int) ≤ (n : Int) ∧ (n : Int) < (len : Int) := by omega
          simp only [Instr.indexAt, asIntOf, Sem.run_bind, Sem.run_pure, Result.andThen_ok, run_underlying (hT.under ht) w]
          simp [hb, hT.size hy w, hsz, addr_add]
      · cases h
    · cases h
  · rename_i n _ _ _ len e _ hn ht
    obtain ⟨k, rfl⟩ := natV_spec hn
    split at h
    · rename_i y i off hy
      split at h
      · rename_i hlt
        have hlt' : n < len := by simpa [Nat.blt_eq] using hlt
        cases h
        cases hx with
        | ptr hρ =>
          rename_i b o tot
          refine ⟨.pointer (some ⟨b, o + (off + n * y.size), none⟩), ?_, .ptr hρ⟩
          simp only [Instr.indexAt, asIntOf, Sem.run_bind, Sem.run_pure, Result.andThen_ok, run_underlying (hT.under ht) w, Instr.sureAddr]
          simp [hT.size hy w, addr_add, Nat.add_assoc, hlt']
      · cases h
    · rename_i y i off hy
      split at h
      · rename_i hlt
        have hlt' : n < len := by simpa [Nat.blt_eq] using hlt
        cases h
        cases hx with
        | gptr =>
          refine ⟨.pointer (some ⟨i, off + n * y.size, none⟩), ?_, .gptr⟩
          simp only [Instr.indexAt, asIntOf, Sem.run_bind, Sem.run_pure, Result.andThen_ok, run_underlying (hT.under ht) w, Instr.sureAddr]
          simp [hT.size hy w, addr_add, Nat.add_assoc, hlt']
      · cases h
    · cases h
  · cases h

noncomputable def aIndex (T : TypeId → Option TI) (t : TypeId) (x ix : Value) : Option Value :=
  match natV ix, T t with
  | some n, some { desc := .string, .. } =>
    match x with
    | .string s => match s.data.toList[n]? with
      | some b => some (.int .u8 b.toNat)
      | none => none
    | _ => none
  | some n, some { desc := .array len e, .. } =>
    match T e, x with
    | some y, .agg cs => if Nat.blt n len then aPart T e cs (n * y.size) else none
    | _, _ => none
  | _, _ => none

theorem aIndex_sound {P : Program} {T : TypeId → Option TI} (hT : TOk P T) {t : TypeId} {x ix v x' : Value} (h : aIndex T t x ix = some v) {ρ : BMap} (hx : VRel ρ x x') (w : World) :
    ∃ u, (Instr.index t x' ix).run P w = .ok u w ∧ VRel ρ v u := by
  unfold aIndex at h
  split at h
  · rename_i n _ _ _ _ hn ht
    obtain ⟨k, rfl⟩ := natV_spec hn
    split at h
    · rename_i s
      split at h
      · rename_i b hb
        cases h
        cases hx
        refine ⟨.int .u8 b.toNat, ?_, .int _ _⟩
        have hlt : n < s.size := by
          have := (List.getElem?_eq_some_iff.1 hb).1
          simpa using this
        have hs : s[n]? = some b := by
          have h2 := (List.getElem?_eq_some_iff.1 hb).2
          rw [getElem?_pos s n hlt]
          simp only [Option.some.injEq]
          have h3 : s.data[n] = b := by simpa using h2
          exact h3
        simp only [Instr.index, asIntOf, Sem.run_bind, Sem.run_pure, Result.andThen_ok, run_underlying (hT.under ht) w]
        simp [hs]
      · cases h
    · cases h
  · rename_i n _ _ _ len e _ hn ht
    obtain ⟨k, rfl⟩ := natV_spec hn
    split at h
    · rename_i y cs hy
      split at h
      · rename_i hlt
        have hlt' : n < len := by simpa [Nat.blt_eq] using hlt
        cases hx with
        | agg hs hr =>
          rename_i cs'
          obtain ⟨u, hu, hv⟩ := aPart_sound hT h (ρ := ρ) (cs' := cs') ⟨hs, hr⟩ w
          refine ⟨u, ?_, hv⟩
          simp only [Instr.index, asIntOf, Sem.run_bind, Sem.run_pure, Result.andThen_ok, run_underlying (hT.under ht) w]
          simp [hlt', hT.size hy w, hu]
      · cases h
    · cases h
  · cases h

noncomputable def aField (T : TypeId → Option TI) (t : TypeId) (x : Value) (f : Nat) : Option Value :=
  match x, T t with
  | .agg cs, some { desc := .struct fields, .. } =>
    match fields[f]? with
    | some fd => aPart T fd.type cs fd.offset
    | none => none
  | _, _ => none

theorem aField_sound {P : Program} {T : TypeId → Option TI} (hT : TOk P T) {t : TypeId} {x v x' : Value} {f : Nat} (h : aField T t x f = some v) {ρ : BMap} (hx : VRel ρ x x') (w : World) :
    ∃ u, (Instr.field t x' f).run P w = .ok u w ∧ VRel ρ v u := by
  unfold aField at h
  split at h
  · rename_i cs _ _ _ fields _ ht
    split at h
    · rename_i fd hf
      cases hx with
      | agg hs hr =>
        rename_i cs'
        obtain ⟨u, hu, hv⟩ := aPart_sound hT h (ρ := ρ) (cs' := cs') ⟨hs, hr⟩ w
        refine ⟨u, ?_, hv⟩
        simp only [Instr.field, Sem.run_bind, run_underlying (hT.under ht) w, Result.andThen_ok, hf, asAgg, Sem.run_pure, hu]
    · cases h
  · cases h

end Go.Proofs.Ytjginpeoblilpaa
