/-
  What is proved: nothing of the program. This text joins all operations but calls of functions.
-/
import Derived.Test.YtjginpeoblilpaaEvI2
namespace Go.Proofs.Ytjginpeoblilpaa
open Go.RowKit
set_option linter.unusedSimpArgs false
set_option linter.unusedVariables false

/-- What these functions of the library answer. -/
noncomputable def cntN (c : Nat) : List UInt8 → Nat → Nat
  | [], m => m
  | b :: r, m => cntN c r (match Nat.beq b.toNat c with | true => m + 1 | false => m)

noncomputable def idxN (c : Nat) : List UInt8 → Nat → Option Nat
  | [], _ => none
  | b :: r, i => match Nat.beq b.toNat c with
    | true => some i
    | false => idxN c r (i + 1)

noncomputable def idxV (c : Nat) (l : List UInt8) : Int := match idxN c l 0 with
  | some i => i
  | none => -1

theorem u8_beq (b c : UInt8) : (b == c) = Nat.beq b.toNat c.toNat := by
  rw [Bool.eq_iff_iff, beq_iff_eq, Nat.beq_eq, UInt8.toNat_inj]

theorem cntN_eq (c : UInt8) : ∀ (l : List UInt8) (m : Nat), cntN c.toNat l m = m + Lib.countByte l c
  | [], m => rfl
  | b :: r, m => by
    rw [cntN, cntN_eq c r]
    simp only [Lib.countByte, List.count_cons, u8_beq]
    cases Nat.beq b.toNat c.toNat <;> simp <;> omega

theorem idxN_eq (c : UInt8) : ∀ (l : List UInt8) (i : Nat), (match idxN c.toNat l i with | some j => (j : Int) - i | none => -1) = Lib.indexByte l c ∧ ∀ j, idxN c.toNat l i = some j → i ≤ j
  | [], i => ⟨rfl, fun j h => by cases h⟩
  | b :: r, i => by
    obtain ⟨h1, h2⟩ := idxN_eq c r (i + 1)
    simp only [idxN, Lib.indexByte, u8_beq]
    cases Nat.beq b.toNat c.toNat with
    | true => exact ⟨by simp, fun j h => by cases h; exact Nat.le_refl _⟩
    | false =>
      simp only [Bool.false_eq_true, if_false]
      cases hr : idxN c.toNat r (i + 1) with
      | none =>
        rw [hr] at h1
        simp only at h1 ⊢
        refine ⟨by rw [← h1]; rfl, fun j h => by cases h⟩
      | some j =>
        rw [hr] at h1
        have hle := h2 j hr
        simp only at h1 ⊢
        refine ⟨?_, fun q h => by cases h; omega⟩
        rw [← h1]
        have : ¬ ((j : Int) - ((i + 1 : Nat) : Int) == -1) = true := by
          simp only [beq_iff_eq]; omega
        rw [if_neg this]
        omega

theorem idxV_eq (c : UInt8) (l : List UInt8) : idxV c.toNat l = Lib.indexByte l c := by
  have := (idxN_eq c l 0).1
  unfold idxV
  rw [← this]
  cases idxN c.toNat l 0 <;> simp

noncomputable def natAns : Nat → ByteArray → Int → Option Value
  | 0, s, c => some (.int .i64 (cntN c.toNat.toUInt8.toNat s.data.toList 0 : Nat))
  | 1, s, c => some (.int .i64 (idxV c.toNat.toUInt8.toNat s.data.toList))
  | _, _, _ => none

/-- The operations on memory. -/
noncomputable def hOp (T : TypeId → Option TI) (g : Operand → Option Value) (H : AH) (op : Op) : Option (Value × AH) :=
  match op with
  | .alloc e => match T e with
    | some y => some (aAlloc H y.zero.cells.toList)
    | none => none
  | .box _ x => match g x with
    | some v => some (aAlloc H v.cells.toList)
    | none => none
  | .buildSlice t len ps => match partsO g ps.toList with
    | some l => aBuildSlice T H t len l
    | none => none
  | .load t x => match g x with
    | some u => (aLoad T H t u).map fun v => (v, H)
    | none => none
  | .store t x y => match g x, g y with
    | some u, some v => (aStore T H t u v).map fun H' => (undef, H')
    | _, _ => none
  | .makeSlice t l c => match g l, g c with
    | some u, some v => aMake T H t u v
    | _, _ => none
  | .range t x => match g x, T t with
    | some (.string s), some { desc := .string, .. } => some (.pointer (some ⟨H.next, 0, none⟩), pushB H (.iter s 0))
    | _, _ => none
  | .next x true => match g x with
    | some u => aNext H u
    | none => none
  | .convert s d x => match g x with
    | some u => match aBytes T H s d u with
      | some v => some (v, H)
      | none => match aToBytes T H s d u with
        | some r => some r
        | none => aMark T H s d u
    | none => none
  | .slice t x lo hi none => match g x, opdO g lo, opdO g hi with
    | some u, some l, some h => (aSliceArr T H t u l h).map fun v => (v, H)
    | _, _, _ => none
  | .call { callee := .builtin .len, args := ⟨[x]⟩, argTypes := ⟨[t]⟩ } => match g x with
    | some u => match aLen T t u with
      | some v => some (v, H)
      | none => (aLenM T H t u).map fun v => (v, H)
    | none => none
  | .call { callee := .builtin .delete, args := ⟨[m, k]⟩, argTypes := ⟨[t, _]⟩ } => match g m, g k with
    | some u, some v => aDelete T H t u v
    | _, _ => none
  | .call { callee := .builtin .append, args := ⟨[s, x]⟩, argTypes := ⟨[t, t']⟩ } =>
    if Nat.beq t t' then
      match g s, g x with
      | some u, some v => aAppendG T H t u v
      | _, _ => none
    else
      match g s, g x with
      | some u, some v => aAppendW T H t t' u v
      | _, _ => none
  | .call { callee := .builtin .copy, args := ⟨[d, s]⟩, argTypes := ⟨[t, _]⟩ } =>
    match g d, g s with
    | some u, some v => aCopy T H t u v
    | _, _ => none
  | .call { callee := .builtin .cap, args := ⟨[x]⟩, argTypes := ⟨[t]⟩ } =>
    match g x, T t with
    | some (.slice none 0 0), some { desc := .slice _, .. } => some (.int .i64 (0 : Nat), H)
    | _, _ => none
  | .call { callee := .builtin .min, args := ⟨[x, y]⟩, .. } =>
    match g x, g y with
    | some (.int k a), some (.int _ b) => some (.int k (if b < a then b else a), H)
    | _, _ => none
  | .call { callee := .builtin .max, args := ⟨[x, y]⟩, .. } =>
    match g x, g y with
    | some (.int k a), some (.int _ b) => some (.int k (if a < b then b else a), H)
    | _, _ => none
  | .call { callee := .value f, args := ⟨[x, y]⟩, argTypes := ⟨[t, _]⟩ } =>
    match g f, g x, g y, T t with
    | some (.func (.func f') ⟨[]⟩ ⟨[]⟩), some (.string s), some (.int .u8 c), some z => match z.ex.nat f' with
      | some n => (natAns n s c).map fun v => (v, H)
      | none => none
    | _, _, _, _ => none
  | .makeMap _ none => some (.map (some H.next), pushB H (.amap false []))
  | .makeMap t (some r) => match g r, T t with
    | some (.int _ _), some { desc := .map _ _, .. } => some (.map (some H.next), pushB H (.amap false []))
    | _, _ => none
  | .lookup t m x ok => match g m, g x with
    | some u, some k => (aLookup T H t u k ok).map fun v => (v, H)
    | _, _ => none
  | .mapUpdate t m x y => match g m, g x, g y with
    | some u, some k, some v => (aMapUpdate T H t u k v).map fun H' => (undef, H')
    | _, _, _ => none
  | .insert t m x y => match g m, g x, g y with
    | some u, some k, some v => (aMapUpdate T H t u k v).map fun H' => (undef, H')
    | _, _, _ => none
  | _ => none

theorem aMapUpdate_next {T : TypeId → Option TI} {H H' : AH} {t : TypeId} {m k v : Value} (h : aMapUpdate T H t m k v = some H') : H'.next = H.next := by
  unfold aMapUpdate at h
  split at h
  · split at h
    · split at h
      · split at h
        · split at h
          · cases h; rfl
          · cases h
        · cases h; rfl
        · cases h
      · cases h
    · cases h
  · cases h

theorem aSliceArr_bnd {T : TypeId → Option TI} {H : AH} {t : TypeId} {x v : Value} {lo hi : Option Value} (h : aSliceArr T H t x lo hi = some v) : (∃ l, bnd lo 0 = some l) ∧ ∃ d hh, bnd hi d = some hh := by
  unfold aSliceArr at h
  split at h
  · split at h
    · split at h
      · split at h
        · exact ⟨⟨_, ‹_›⟩, ⟨_, _, ‹_›⟩⟩
        · cases h
      · cases h
    · cases h
  · split at h
    · split at h
      · split at h
        · exact ⟨⟨_, ‹_›⟩, ⟨_, _, ‹_›⟩⟩
        · cases h
      · cases h
    · cases h
  · cases h

theorem aMake_nat {T : TypeId → Option TI} {H H' : AH} {t : TypeId} {l c v : Value} (h : aMake T H t l c = some (v, H')) : (∃ n, natV l = some n) ∧ ∃ n, natV c = some n := by
  unfold aMake at h
  split at h
  · exact ⟨⟨_, ‹_›⟩, ⟨_, ‹_›⟩⟩
  · cases h

theorem hOp_mono {T : TypeId → Option TI} {g : Operand → Option Value} {H H' : AH} {op : Op} {v : Value} (h : hOp T g H op = some (v, H')) : H.next ≤ H'.next := by
  unfold hOp at h
  split at h
  · split at h
    · cases h; exact Nat.le_succ _
    · cases h
  · split at h
    · cases h; exact Nat.le_succ _
    · cases h
  · split at h
    · unfold aBuildSlice at h
      split at h
      · split at h
        · split at h
          · split at h
            · cases h; exact Nat.le_succ _
            · cases h
          · cases h
        · cases h
      · cases h
    · cases h
  · split at h
    · simp only [Option.map_eq_some_iff] at h
      obtain ⟨_, _, h⟩ := h
      cases h; exact Nat.le_refl _
    · cases h
  · split at h
    · simp only [Option.map_eq_some_iff] at h
      obtain ⟨H2, h2, h⟩ := h
      cases h
      unfold aStore at h2
      split at h2
      · split at h2
        · dsimp only at h2
          split at h2
          · cases h2; exact Nat.le_refl _
          · cases h2
        · cases h2
      · cases h2
    · cases h
  · split at h
    · unfold aMake at h
      split at h
      · split at h
        · split at h
          · cases h; exact Nat.le_succ _
          · cases h
        · cases h
      · cases h
    · cases h
  · split at h
    · cases h; exact Nat.le_succ _
    · cases h
  · split at h
    · unfold aNext at h
      split at h
      · split at h
        · split at h
          · cases h; exact Nat.le_refl _
          · cases h; exact Nat.le_refl _
        · cases h
      · cases h
    · cases h
  · split at h
    · split at h
      · cases h; exact Nat.le_refl _
      · split at h
        · rename_i r hr
          cases h
          exact aToBytes_next hr
        · exact Nat.le_of_eq (aMark_next h).symm
    · cases h
  · split at h
    · simp only [Option.map_eq_some_iff] at h
      obtain ⟨_, _, h⟩ := h
      cases h; exact Nat.le_refl _
    · cases h
  · split at h
    · split at h
      · cases h; exact Nat.le_refl _
      · simp only [Option.map_eq_some_iff] at h
        obtain ⟨_, _, h⟩ := h
        cases h; exact Nat.le_refl _
    · cases h
  · split at h
    · exact Nat.le_of_eq (aDelete_next h).symm
    · cases h
  · split at h
    · split at h
      · exact aAppendG_next h
      · cases h
    · split at h
      · exact aAppendW_next h
      · cases h
  · split at h
    · unfold aCopy at h
      split at h
      · split at h
        · split at h
          · cases h; exact Nat.le_refl _
          · split at h
            · split at h
              · split at h
                · cases h; exact Nat.le_refl _
                · cases h
              · cases h
            · cases h
        · cases h
      · cases h
    · cases h
  · split at h
    · cases h; exact Nat.le_refl _
    · cases h
  · split at h
    · cases h; exact Nat.le_refl _
    · cases h
  · split at h
    · cases h; exact Nat.le_refl _
    · cases h
  · split at h
    · split at h
      · simp only [Option.map_eq_some_iff] at h
        obtain ⟨_, _, h⟩ := h
        cases h; exact Nat.le_refl _
      · cases h
    · cases h
  · cases h; exact Nat.le_succ _
  · split at h
    · cases h; exact Nat.le_succ _
    · cases h
  · split at h
    · simp only [Option.map_eq_some_iff] at h
      obtain ⟨_, _, h⟩ := h
      cases h; exact Nat.le_refl _
    · cases h
  · split at h
    · simp only [Option.map_eq_some_iff] at h
      obtain ⟨H2, h2, h⟩ := h
      cases h
      exact Nat.le_of_eq (aMapUpdate_next h2).symm
    · cases h
  · split at h
    · simp only [Option.map_eq_some_iff] at h
      obtain ⟨H2, h2, h⟩ := h
      cases h
      exact Nat.le_of_eq (aMapUpdate_next h2).symm
    · cases h
  · cases h

theorem gives_val {ρ : BMap} {v u : Value} (h : VRel ρ v u) : Gives ρ v (.value u) := .inl ⟨u, rfl, h⟩

theorem lrel_cells {ρ : BMap} {v u : Value} (h : VRel ρ v u) : LRel ρ v.cells.toList u.cells := (vrel_cells h).list

section
variable {o : Oper} (E : Operand → Value)
theorem ex_alloc {e : TypeId} (h : o.op = .alloc e) : execOp E o = (do pure (.value (← Instr.alloc e true (.tuple #[])))) := by unfold execOp; rw [h]
theorem ex_box {e : TypeId} {x : Operand} (h : o.op = .box e x) : execOp E o = (do pure (.value (← Instr.box e (E x)))) := by unfold execOp; rw [h]
theorem ex_buildSlice {t : TypeId} {n : Nat} {ps : Array (Nat × Operand)} (h : o.op = .buildSlice t n ps) : execOp E o = (do pure (.value (← Instr.buildSlice t n (ps.map fun p => (p.1, E p.2))))) := by unfold execOp; rw [h]
theorem ex_load {t : TypeId} {x : Operand} (h : o.op = .load t x) : execOp E o = (do pure (.value (← Instr.loadAt t (E x)))) := by unfold execOp; rw [h]
theorem ex_store {t : TypeId} {x y : Operand} (h : o.op = .store t x y) : execOp E o = (do Instr.storeAt t (E x) (E y); pure .skip) := by unfold execOp; rw [h]
theorem ex_makeSlice {t : TypeId} {x y : Operand} (h : o.op = .makeSlice t x y) : execOp E o = (do pure (.value (← Instr.makeSlice t (E x) (E y)))) := by unfold execOp; rw [h]
theorem ex_range {t : TypeId} {x : Operand} (h : o.op = .range t x) : execOp E o = (do pure (.value (← Instr.range t (E x)))) := by unfold execOp; rw [h]
theorem ex_next {b : Bool} {x : Operand} (h : o.op = .next x b) : execOp E o = (do pure (.value (← Instr.next (E x) b o.type))) := by unfold execOp; rw [h]
theorem ex_convert {s d : TypeId} {x : Operand} (h : o.op = .convert s d x) : execOp E o = (do pure (.value (← convert s d (E x)))) := by unfold execOp; rw [h]
theorem ex_slice {t : TypeId} {x : Operand} {lo hi mx : Option Operand} (h : o.op = .slice t x lo hi mx) : execOp E o = (do pure (.value (← Instr.sliceAt t (E x) (lo.map E) (hi.map E) (mx.map E)))) := by unfold execOp; rw [h]
theorem ex_makeMap {t : TypeId} {r : Option Operand} (h : o.op = .makeMap t r) : execOp E o = (do pure (.value (← Instr.makeMap t (r.map E)))) := by unfold execOp; rw [h]
theorem ex_lookup {t : TypeId} {x y : Operand} {b : Bool} (h : o.op = .lookup t x y b) : execOp E o = (do pure (.value (← Instr.lookup t (E x) (E y) b))) := by unfold execOp; rw [h]
theorem ex_mapUpdate {t : TypeId} {x y z : Operand} (h : o.op = .mapUpdate t x y z) : execOp E o = (do Instr.mapUpdate t (E x) (E y) (E z); pure .skip) := by unfold execOp; rw [h]
theorem ex_insert {t : TypeId} {x y z : Operand} (h : o.op = .insert t x y z) : execOp E o = (do Instr.mapUpdate t (E x) (E y) (E z); pure .skip) := by unfold execOp; rw [h]
theorem ex_call {c : Call} (h : o.op = .call c) : execOp E o = (do let d ← resolve E c o.type; invoke d.target d.args) := by unfold execOp; rw [h]
end

theorem hOp_sound {P : Program} {T : TypeId → Option TI} (hT : TOk P T) {g : Operand → Option Value} {H H' : AH} {o : Oper} {v : Value} (h : hOp T g H o.op = some (v, H')) {B : Nat} {ρ : BMap} {w : World} {E : Operand → Value} (hE : ERel ρ g E)
    (hH : HRel B ρ H.bs w) (hf : Free ρ H.next H'.next) : Runs P B ρ H w (execOp E o) v H' := by
  unfold hOp at h
  split at h
  · rename_i e he
    rw [ex_alloc E he]
    split at h
    · rename_i y hy
      cases h
      obtain ⟨h1, h2⟩ := run_row (P := P) hH hf (lrel_cells (closedV_rel ρ 6 _ (hT e y hy).2.2.1)) e
      refine ⟨_, _, .value (.pointer (some ⟨w.heap.size, 0, none⟩)), ?_, gives_val ?_, h2⟩
      · simp only [Instr.alloc, newVar, Sem.run_bind, hT.zeroV hy w, Result.andThen_ok, h1, Sem.run_pure]
      · have := VRel.ptr (ρ := bmapAt ρ H.next w.heap.size y.zero.cells.size) (off := 0) (bmapAt_self ρ H.next w.heap.size _)
        simpa using this
    · cases h
  · rename_i e x he
    rw [ex_box E he]
    split at h
    · rename_i u hu
      cases h
      obtain ⟨h1, h2⟩ := run_row (P := P) hH hf (lrel_cells (hE _ _ hu)) e
      refine ⟨_, _, .value (.pointer (some ⟨w.heap.size, 0, none⟩)), ?_, gives_val ?_, h2⟩
      · simp only [Instr.box, newVar, Sem.run_bind, h1, Result.andThen_ok, Sem.run_pure]
      · have := VRel.ptr (ρ := bmapAt ρ H.next w.heap.size (E x).cells.size) (off := 0) (bmapAt_self ρ H.next w.heap.size _)
        simpa using this
    · cases h
  · rename_i t len ps he
    rw [ex_buildSlice E he]
    split at h
    · rename_i l hl
      have hp : PRel ρ l (ps.map fun p => (p.1, E p.2)).toList := by
        rw [Array.toList_map]; exact partsO_rel hE _ _ hl
      exact aBuildSlice_sound hT h hH hf hp
    · cases h
  · rename_i t x he
    rw [ex_load E he]
    split at h
    · rename_i u hu
      simp only [Option.map_eq_some_iff, Prod.mk.injEq] at h
      obtain ⟨v', hv, rfl, rfl⟩ := h
      obtain ⟨r, h1, h2⟩ := aLoad_sound hT hv hH (hE _ _ hu)
      exact ⟨ρ, w, _, by simp only [Sem.run_bind, h1, Result.andThen_ok, Sem.run_pure], gives_val h2, Post.same hH⟩
    · cases h
  · rename_i t x y he
    rw [ex_store E he]
    split at h
    · rename_i u v0 hu hv0
      simp only [Option.map_eq_some_iff, Prod.mk.injEq] at h
      obtain ⟨H2, h2, rfl, rfl⟩ := h
      obtain ⟨w', h1, h3⟩ := aStore_sound (P := P) hT h2 hH (hE _ _ hu) (hE _ _ hv0)
      exact ⟨ρ, w', .skip, by simp only [Sem.run_bind, h1, Result.andThen_ok, Sem.run_pure], .inr ⟨rfl, rfl⟩, h3⟩
    · cases h
  · rename_i t l c he
    rw [ex_makeSlice E he]
    split at h
    · rename_i u v0 hu hv0
      obtain ⟨⟨_, h1⟩, ⟨_, h2⟩⟩ := aMake_nat h
      have e1 := natV_rel h1 (hE _ _ hu)
      have e2 := natV_rel h2 (hE _ _ hv0)
      simp only [e1, e2]
      exact aMake_sound hT h hH hf
    · cases h
  · rename_i t x he
    rw [ex_range E he]
    split at h
    · rename_i s _ _ _ _ hx ht
      cases h
      have hr := hE _ _ hx
      generalize hEx : E x = ex at hr
      cases hr
      have hpost := post_push hH hf (.stringIter s 0) (.iter s 0) 0 ⟨alloc_new w _, hH.hB, rfl⟩
      refine ⟨_, _, .value (.pointer (some ⟨w.heap.size, 0, none⟩)), ?_, gives_val ?_, hpost⟩
      · simp [Instr.range, run_underlying (hT.under ht)]
      · have := VRel.ptr (ρ := bmapAt ρ H.next w.heap.size 0) (off := 0) (bmapAt_self ρ H.next w.heap.size 0)
        simpa using this
    · cases h
  · rename_i x he
    rw [ex_next E he]
    split at h
    · rename_i u hu
      obtain ⟨r, w', h1, h2, h3⟩ := aNext_sound (P := P) h hH (hE _ _ hu) o.type
      exact ⟨ρ, w', _, by simp only [Sem.run_bind, h1, Result.andThen_ok, Sem.run_pure], gives_val h2, h3⟩
    · cases h
  · rename_i s d x he
    rw [ex_convert E he]
    split at h
    · rename_i u hu
      split at h
      · rename_i v' hv
        cases h
        obtain ⟨h1, h2⟩ := aBytes_sound (P := P) hT hv hH (hE _ _ hu)
        exact ⟨ρ, w, _, by simp only [Sem.run_bind, h1, Result.andThen_ok, Sem.run_pure], gives_val h2, Post.same hH⟩
      · split at h
        · rename_i r0 hr0
          cases h
          obtain ⟨ρ', w', r, h1, h2, h3⟩ := aToBytes_sound (P := P) hT hr0 hH hf (hE _ _ hu)
          exact ⟨ρ', w', _, by simp only [Sem.run_bind, h1, Result.andThen_ok, Sem.run_pure], gives_val h2, h3⟩
        · obtain ⟨w', r, h1, h2, h3⟩ := aMark_sound (P := P) hT h hH (hE _ _ hu)
          exact ⟨ρ, w', _, by simp only [Sem.run_bind, h1, Result.andThen_ok, Sem.run_pure], gives_val h2, h3⟩
    · cases h
  · rename_i t x lo hi he
    rw [ex_slice E he]
    split at h
    · rename_i u l hh hu hl hhh
      simp only [Option.map_eq_some_iff, Prod.mk.injEq] at h
      obtain ⟨v', hv, rfl, rfl⟩ := h
      obtain ⟨⟨_, hb1⟩, ⟨_, _, hb2⟩⟩ := aSliceArr_bnd hv
      have e1 := bnd_rel hE hl hb1
      have e2 := bnd_rel hE hhh hb2
      obtain ⟨r, h1, h2⟩ := aSliceArr_sound (P := P) hT hv hH (hE _ _ hu)
      exact ⟨ρ, w, _, by simp only [e1, e2, Option.map_none, Sem.run_bind, h1, Result.andThen_ok, Sem.run_pure], gives_val h2, Post.same hH⟩
    · cases h
  · rename_i x t he
    rw [ex_call E he]
    split at h
    · rename_i u hu
      split at h
      · rename_i v' hv
        cases h
        obtain ⟨h1, h2⟩ := aLen_sound (P := P) (ty := o.type) hT hv (hE _ _ hu) w
        refine ⟨ρ, w, .value _, ?_, gives_val h2, Post.same hH⟩
        simp [resolve, invoke, builtin, h1]
      · simp only [Option.map_eq_some_iff, Prod.mk.injEq] at h
        obtain ⟨v', hv, rfl, rfl⟩ := h
        obtain ⟨h1, h2⟩ := aLenM_sound (P := P) (ty := o.type) hT hv hH (hE _ _ hu)
        refine ⟨ρ, w, .value v', ?_, gives_val h2, Post.same hH⟩
        simp [resolve, invoke, builtin, h1]
    · cases h
  · rename_i m k t t' he
    rw [ex_call E he]
    split at h
    · rename_i u v0 hu hv0
      obtain ⟨w', r, h1, h2, h3⟩ := aDelete_sound (P := P) (t' := t') (ty := o.type) hT h hH (hE _ _ hu) (hE _ _ hv0)
      refine ⟨ρ, w', .value r, ?_, gives_val h2, h3⟩
      simp [resolve, invoke, builtin, h1]
    · cases h
  · rename_i s x t t' he
    rw [ex_call E he]
    split at h
    · rename_i htt
      have : t = t' := Nat.eq_of_beq_eq_true htt
      subst this
      split at h
      · rename_i u v0 hu hv0
        obtain ⟨ρ', w', r, h1, h2, h3⟩ := aAppendG_sound (P := P) (ty := o.type) hT h hH hf (hE _ _ hu) (hE _ _ hv0)
        refine ⟨ρ', w', .value r, ?_, gives_val h2, h3⟩
        simp [resolve, invoke, builtin, h1]
      · cases h
    · split at h
      · rename_i u v0 hu hv0
        obtain ⟨ρ', w', r, h1, h2, h3⟩ := aAppendW_sound (P := P) (ty := o.type) hT h hH hf (hE _ _ hu) (hE _ _ hv0)
        refine ⟨ρ', w', .value r, ?_, gives_val h2, h3⟩
        simp [resolve, invoke, builtin, h1]
      · cases h
  · rename_i d s t t' he
    rw [ex_call E he]
    split at h
    · rename_i u v0 hu hv0
      obtain ⟨w', h1, h2, h3⟩ := aCopy_sound (P := P) (t' := t') (ty := o.type) hT h hH (hE _ _ hu) (hE _ _ hv0)
      refine ⟨ρ, w', .value v, ?_, gives_val h2, h3⟩
      simp [resolve, invoke, builtin, h1]
    · cases h
  · rename_i x t he
    rw [ex_call E he]
    split at h
    · rename_i hx ht
      cases h
      have hr := hE _ _ hx
      generalize hEx : E x = ex at hr
      cases hr
      refine ⟨ρ, w, .value (.int .i64 (0 : Nat)), ?_, gives_val (.int _ _), Post.same hH⟩
      simp [resolve, invoke, builtin, hEx, Builtin.cap_, run_underlying (hT.under ht), goInt]
    · cases h
  · rename_i x y _ he
    rw [ex_call E he]
    split at h
    · rename_i k a k' b hx hy
      cases h
      have hr := hE _ _ hx
      have hr' := hE _ _ hy
      generalize hEx : E x = ex at hr
      generalize hEy : E y = ey at hr'
      cases hr
      cases hr'
      refine ⟨ρ, w, .value (.int k (if b < a then b else a)), ?_, gives_val (.int _ _), Post.same hH⟩
      simp [resolve, invoke, builtin, hEx, hEy, Builtin.min_, Builtin.min2]
    · cases h
  · rename_i x y _ he
    rw [ex_call E he]
    split at h
    · rename_i k a k' b hx hy
      cases h
      have hr := hE _ _ hx
      have hr' := hE _ _ hy
      generalize hEx : E x = ex at hr
      generalize hEy : E y = ey at hr'
      cases hr
      cases hr'
      refine ⟨ρ, w, .value (.int k (if a < b then b else a)), ?_, gives_val (.int _ _), Post.same hH⟩
      simp [resolve, invoke, builtin, hEx, hEy, Builtin.max_, Builtin.max2]
    · cases h
  · rename_i f x y t _ he
    rw [ex_call E he]
    split at h
    · rename_i f' s c z hf' hx hy hz
      split at h
      · rename_i n hn
        simp only [Option.map_eq_some_iff, Prod.mk.injEq] at h
        obtain ⟨v', hv, rfl, rfl⟩ := h
        obtain ⟨fn, e, g1, g2, g3, g4, g5, g6⟩ := (hT t z hz).2.2.2.2.2.2.2.1 f' n hn
        have hrf := hE _ _ hf'
        have hrx := hE _ _ hx
        have hry := hE _ _ hy
        generalize hEf : E f = ef at hrf
        generalize hEx : E x = ex at hrx
        generalize hEy : E y = ey at hry
        cases hrx
        cases hry
        have hcf : ef = .func (.func f') #[] #[] := by
          cases hrf with
          | func hs _ => exact congrArg (Value.func (.func f') #[]) (Array.eq_empty_of_size_eq_zero (by simpa using hs.symm))
        have hrun : (callFunc f' #[.string s, .int .u8 c]).run P w = .ok (.value v') w := by
          rw [run_callFunc_extern g1 g2 g3 g4 g5]
          unfold natRow at g6
          unfold natAns at hv
          split at g6
          · cases g6; cases hv
            rw [Lib.run_countString, cntN_eq, Nat.zero_add]; rfl
          · cases g6; cases hv
            rw [Lib.run_indexByteString, idxV_eq]; rfl
          · cases hv
          · cases g6
        refine ⟨ρ, w, .value v', ?_, gives_val ?_, Post.same hH⟩
        · simp [resolve, Deferred.ofValue, invoke, hEf, hcf, hEx, hEy, hrun]
        · unfold natAns at hv
          split at hv
          · cases hv; exact .int _ _
          · cases hv; exact .int _ _
          · cases hv
      · cases h
    · cases h
  · rename_i t he
    rw [ex_makeMap E he]
    cases h
    have hpost := post_push hH hf (.map #[] 0) (.amap false []) 0 ⟨#[], 0, alloc_new w _, rfl, fun j k v hj => by simp at hj, hH.hB⟩
    refine ⟨_, _, .value (.map (some w.heap.size)), ?_, gives_val (.mptr (bmapAt_self ρ H.next w.heap.size 0)), hpost⟩
    simp [Instr.makeMap]
  · rename_i t r he
    rw [ex_makeMap E he]
    split at h
    · rename_i k n _ _ _ _ _ _ hr ht
      cases h
      have hv := hE _ _ hr
      generalize hEr : E r = er at hv
      cases hv
      have hpost := post_push hH hf (.map #[] 0) (.amap false []) 0 ⟨#[], 0, alloc_new w _, rfl, fun j k v hj => by simp at hj, hH.hB⟩
      refine ⟨_, _, .value (.map (some w.heap.size)), ?_, gives_val (.mptr (bmapAt_self ρ H.next w.heap.size 0)), hpost⟩
      simp [Instr.makeMap, hEr, run_underlying (hT.under ht), asInt, asIntOf]
    · cases h
  · rename_i t m x ok he
    rw [ex_lookup E he]
    split at h
    · rename_i u k hu hk
      simp only [Option.map_eq_some_iff, Prod.mk.injEq] at h
      obtain ⟨v', hv, rfl, rfl⟩ := h
      obtain ⟨r, h1, h2⟩ := aLookup_sound (P := P) hT hv hH (hE _ _ hu) (hE _ _ hk)
      exact ⟨ρ, w, _, by simp only [Sem.run_bind, h1, Result.andThen_ok, Sem.run_pure], gives_val h2, Post.same hH⟩
    · cases h
  · rename_i t m x y he
    rw [ex_mapUpdate E he]
    split at h
    · rename_i u k v0 hu hk hv0
      simp only [Option.map_eq_some_iff, Prod.mk.injEq] at h
      obtain ⟨H2, h2, rfl, rfl⟩ := h
      obtain ⟨w', h1, h3⟩ := aMapUpdate_sound (P := P) hT h2 hH (hE _ _ hu) (hE _ _ hk) (hE _ _ hv0)
      exact ⟨ρ, w', .skip, by simp only [Sem.run_bind, h1, Result.andThen_ok, Sem.run_pure], .inr ⟨rfl, rfl⟩, h3⟩
    · cases h
  · rename_i t m x y he
    rw [ex_insert E he]
    split at h
    · rename_i u k v0 hu hk hv0
      simp only [Option.map_eq_some_iff, Prod.mk.injEq] at h
      obtain ⟨H2, h2, rfl, rfl⟩ := h
      obtain ⟨w', h1, h3⟩ := aMapUpdate_sound (P := P) hT h2 hH (hE _ _ hu) (hE _ _ hk) (hE _ _ hv0)
      exact ⟨ρ, w', .skip, by simp only [Sem.run_bind, h1, Result.andThen_ok, Sem.run_pure], .inr ⟨rfl, rfl⟩, h3⟩
    · cases h
  · cases h

end Go.Proofs.Ytjginpeoblilpaa
