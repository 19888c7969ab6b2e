/-
  What is proved: nothing of the program. This text holds the operations that read, write or make memory (but append and calls).
-/
import Derived.Test.YtjginpeoblilpaaEvF
namespace Go.Proofs.Ytjginpeoblilpaa
open Go.RowKit
set_option linter.unusedSimpArgs false
set_option linter.unusedVariables false

noncomputable def Gives (ρ : BMap) (v : Value) (n : Next) : Prop := (∃ u, n = .value u ∧ VRel ρ v u) ∨ (n = .skip ∧ v = undef)

/-- What an operation owes: it ends, with the abstract value, in a world that holds the abstract memory. -/
noncomputable def Runs (P : Program) (B : Nat) (ρ : BMap) (H : AH) (w : World) (s : Sem Next) (v : Value) (H' : AH) : Prop :=
  ∃ ρ' w' n, s.run P w = .ok n w' ∧ Gives ρ' v n ∧ Post B ρ H w H' ρ' w'

noncomputable def aAlloc (H : AH) (cs : List Value) : Value × AH := (.pointer (some ⟨H.next, 0, none⟩), pushB H (.cells false cs))

theorem run_row {P : Program} {B : Nat} {ρ : BMap} {H : AH} {w : World} (h : HRel B ρ H.bs w) (hf : Free ρ H.next (H.next + 1)) {cs : List Value} {ccs : Array Value} (hr : LRel ρ cs ccs) (e : TypeId) :
    (newRow e ccs).run P w = .ok ⟨w.heap.size, 0, none⟩ (w.alloc (.cells ccs e)) ∧ Post B ρ H w (pushB H (.cells false cs)) (bmapAt ρ H.next w.heap.size ccs.size) (w.alloc (.cells ccs e)) := by
  refine ⟨by simp [newRow], post_row h hf cs ccs e (by rw [hr.1]; exact Nat.le_refl _) fun j v hv => hr.get hv⟩

theorem vrel_bang {ρ : BMap} {z : Array Value} (hz : ARel ρ z z) (i : Nat) : VRel ρ z[i]! z[i]! := by
  rcases Nat.lt_or_ge i z.size with h | h
  · rw [getElem!_pos z i h]
    exact hz.2 i _ _ (Array.getElem?_eq_getElem h) (Array.getElem?_eq_getElem h)
  · rw [getElem!_neg z i (by omega)]
    exact .bool false

theorem arel_rep {ρ : BMap} {z : Array Value} (hz : ARel ρ z z) (n : Nat) : ARel ρ ((Array.range n).map (z[· % z.size]!)) ((Array.range n).map (z[· % z.size]!)) := by
  refine ⟨rfl, fun j a b ha hb => ?_⟩
  rw [ha] at hb; cases hb
  simp only [Array.getElem?_map, Option.map_eq_some_iff] at ha
  obtain ⟨i, _, rfl⟩ := ha
  exact vrel_bang hz _

noncomputable def aBuildSlice (T : TypeId → Option TI) (H : AH) (t : TypeId) (len : Nat) (ps : List (Nat × Value)) : Option (Value × AH) :=
  match T t with
  | some { desc := .slice e, .. } =>
    match T e with
    | some y =>
      if Nat.ble (len * y.size) 65536 then
        match aFill (fun i => some (i * y.size, y.size)) ps ((Array.range (len * y.size)).map ((if len * y.size = 0 then #[] else y.zero.cells)[· % (if len * y.size = 0 then #[] else y.zero.cells).size]!)) with
        | some c => some (.slice (some ⟨H.next, 0, none⟩) len y.size, pushB H (.cells false c.toList))
        | none => none
      else none
    | none => none
  | _ => none

theorem fill_size : ∀ (ps : List (Nat × Value)) (place : Nat → Option (Nat × Nat)) (c r : Array Value), aFill place ps c = some r → r.size = c.size
  | [], place, c, r, h => by simp only [aFill, Option.some.injEq] at h; subst h; rfl
  | (i, v) :: rest, place, c, r, h => by
    simp only [aFill] at h
    split at h
    · cases h
    · split at h
      · cases h
      · have := fill_size rest place _ r h
        rw [this]
        have key : ∀ (off : Nat) (l : List (Value × Nat)) (c : Array Value), (l.foldl (fun cs p => cs.setIfInBounds (off + p.2) p.1) c).size = c.size := by
          intro off l
          induction l with
          | nil => intro c; rfl
          | cons a l ih => intro c; rw [List.foldl_cons, ih]; simp
        rename_i off _ _ _
        have := key off v.cells.zipIdx.toList c
        rw [Array.foldl_toList] at this
        exact this

theorem aBuildSlice_sound {P : Program} {T : TypeId → Option TI} (hT : TOk P T) {B : Nat} {ρ : BMap} {H H' : AH} {w : World} {t : TypeId} {len : Nat} {ps : List (Nat × Value)} {v : Value} (h : aBuildSlice T H t len ps = some (v, H'))
    (hH : HRel B ρ H.bs w) (hf : Free ρ H.next H'.next) {qs : Array (Nat × Value)} (hp : PRel ρ ps qs.toList) :
    Runs P B ρ H w (do pure (.value (← Instr.buildSlice t len qs))) v H' := by
  unfold aBuildSlice at h
  split at h
  · rename_i _ _ _ e _ ht
    split at h
    · rename_i y hy
      split at h
      · rename_i hsz
        have hsz' : len * y.size ≤ 65536 := by simpa [Nat.ble_eq] using hsz
        split at h
        · rename_i c hc
          cases h
          have hz : ARel ρ (if len * y.size = 0 then #[] else y.zero.cells) (if len * y.size = 0 then #[] else y.zero.cells) := by
            split
            · exact ⟨rfl, fun j a b ha => by simp at ha⟩
            · exact arel_refl_zero hT hy ρ
          have harr := arel_rep hz (len * y.size)
          obtain ⟨r', h1, h2⟩ := aFill_sound ps qs.toList _ _ c hp harr hc
          obtain ⟨hrow, hpost⟩ := run_row (P := P) hH hf h2.list e
          refine ⟨_, _, _, ?_, .inl ⟨.slice (some ⟨w.heap.size, 0, none⟩) len len, rfl, ?_⟩, hpost⟩
          · have hbig : ¬ (16777216 < len * y.size) := by omega
            simp only [Instr.buildSlice, Sem.run_bind, run_underlying (hT.under ht) w, Result.andThen_ok, hT.size hy w]
            simp only [gt_iff_lt, show (2 : Nat) ^ 24 = 16777216 from rfl, hbig, if_false]
            by_cases h0 : len * y.size = 0
            · simp only [h0, if_true] at h1 ⊢
              simp only [Sem.run_bind, Sem.run_pure, Result.andThen_ok, h1, hrow]
            · simp only [h0, if_false] at h1 ⊢
              simp only [Sem.run_bind, hT.zeroV hy w, Sem.run_pure, Result.andThen_ok, h1, hrow]
          · have hcs : c.size = len * y.size := by
              rw [fill_size _ _ _ _ hc]; simp
            have := VRel.slice (ρ := bmapAt ρ H.next w.heap.size r'.size) (off := 0) (len := len) (sz := y.size) (cap := len) (bmapAt_self ρ H.next w.heap.size r'.size) (Nat.le_refl _) (by rw [← h2.1, hcs]; omega)
            simpa using this
        · cases h
      · cases h
    · cases h
  · cases h

noncomputable def aLoad (T : TypeId → Option TI) (H : AH) (t : TypeId) (x : Value) : Option Value :=
  match x with
  | .pointer (some ⟨i, off, none⟩) =>
    match lookB H.bs i, T t with
    | some (.cells _ cs), some y => if aggD y.desc then (takeCells cs off y.size).map (fun l => .agg l.toArray) else getR cs off
    | _, _ => none
  | .pointer (some ⟨i, off, some 1⟩) =>
    match lookB H.bs i, T t with
    | some (.ints g), some y => if aggD y.desc then none else some (.int .i64 (g off))
    | _, _ => none
  | .pointer (some ⟨g, off, some 2⟩) =>
    match GV g, T t with
    | some cs, some y => if aggD y.desc then
        match takeCells cs off y.size with
        | some l => if l.all (closedV 2) then some (.agg l.toArray) else none
        | none => none
      else match cs[off]? with
        | some v => if closedV 2 v then some v else none
        | none => none
    | _, _ => none
  | _ => none

theorem aLoad_sound {P : Program} {T : TypeId → Option TI} (hT : TOk P T) {B : Nat} {ρ : BMap} {H : AH} {w : World} {t : TypeId} {x x' v : Value} (h : aLoad T H t x = some v) (hH : HRel B ρ H.bs w) (hx : VRel ρ x x') :
    ∃ u, (Instr.loadAt t x').run P w = .ok u w ∧ VRel ρ v u := by
  unfold aLoad at h
  split at h
  · rename_i i off
    split at h
    · rename_i ro cs y hi ht
      cases hx with
      | ptr hρ =>
        rename_i b o tot
        split at h
        · rename_i ha
          simp only [Option.map_eq_some_iff] at h
          obtain ⟨l, hl, rfl⟩ := h
          obtain ⟨c, h1, _, h3⟩ := run_cells (P := P) hH hi hρ hl
          refine ⟨.agg c.toArray, ?_, .agg h3.arr.1 h3.arr.2⟩
          simp only [Instr.loadAt, Instr.sureAddr, Sem.run_bind, Sem.run_pure, Result.andThen_ok, loadVar, hT.agg ht w, ha, if_true, hT.size ht w, h1]
        · rename_i ha
          have ha' : aggD y.desc = false := by simpa using ha
          rw [getR_eq] at h
          obtain ⟨u, hu, hv⟩ := hH.cells hi hρ off v h
          refine ⟨u, ?_, hv⟩
          simp only [Instr.loadAt, Instr.sureAddr, Sem.run_bind, Sem.run_pure, Result.andThen_ok, loadVar, hT.agg ht w, ha', Bool.false_eq_true, if_false, run_load, hu]
    · cases h
  · rename_i i off
    split at h
    · rename_i g y hi ht
      split at h
      · cases h
      · rename_i ha
        have ha' : aggD y.desc = false := by simpa using ha
        cases h
        cases hx with
        | rptr hρ hlt =>
          rename_i b o tot
          obtain ⟨z, hz, hr⟩ := hH.blk i _ hi
          rw [hρ] at hz; cases hz
          obtain ⟨_, ccs, e, fz, h1, h2, _⟩ := hr
          have hu : w.cell? ⟨b, o + off, none⟩ = some (.int .i64 (g off)) := by simp only [World.cell?]; rw [h1]; simpa using h2 off hlt
          refine ⟨.int .i64 (g off), ?_, .int _ _⟩
          simp only [Instr.loadAt, Instr.sureAddr, Sem.run_bind, Sem.run_pure, Result.andThen_ok, loadVar, hT.agg ht w, ha', Bool.false_eq_true, if_false, run_load, hu]
    · cases h
  · rename_i g off
    split at h
    · rename_i cs y hg ht
      obtain ⟨_, ccs, e, fz, h1, h2⟩ := hH.glob g cs hg
      have hcell : ∀ (j : Nat) (v : Value), cs[j]? = some v → w.cell? ⟨g, j, none⟩ = some v := fun j v hv => by
        simp only [World.cell?]; rw [h1]; simpa using h2 j v hv
      cases hx with
      | gptr =>
        split at h
        · rename_i ha
          split at h
          · rename_i l hl
            split at h
            · rename_i hall
              cases h
              obtain ⟨hn, hsp⟩ := takeCells_spec _ _ _ _ hl
              have hrun := run_loadCells_list (P := P) w ⟨g, off, none⟩ l (fun j v hv => by
                rw [addr_add]
                have hj : j < y.size := by rw [← hn]; exact (List.getElem?_eq_some_iff.1 hv).1
                exact hcell _ v ((hsp j hj).symm.trans hv))
              rw [hn] at hrun
              refine ⟨.agg l.toArray, ?_, closedV_rel ρ 3 _ (by simpa [closedV] using hall)⟩
              simp only [Instr.loadAt, Instr.sureAddr, Sem.run_bind, Sem.run_pure, Result.andThen_ok, loadVar, hT.agg ht w, ha, if_true, hT.size ht w, hrun]
            · cases h
          · cases h
        · rename_i ha
          have ha' : aggD y.desc = false := by simpa using ha
          split at h
          · rename_i v0 hv0
            split at h
            · rename_i hcl
              cases h
              refine ⟨_, ?_, closedV_rel ρ 2 _ hcl⟩
              simp only [Instr.loadAt, Instr.sureAddr, Sem.run_bind, Sem.run_pure, Result.andThen_ok, loadVar, hT.agg ht w, ha', Bool.false_eq_true, if_false, run_load, hcell _ _ hv0]
            · cases h
          · cases h
    · cases h
  · cases h

noncomputable def aStore (T : TypeId → Option TI) (H : AH) (t : TypeId) (x v : Value) : Option AH :=
  match x with
  | .pointer (some ⟨i, off, none⟩) =>
    match lookB H.bs i, T t with
    | some (.cells false cs), some y =>
      let vs := v.cells.toList
      if Nat.beq vs.length y.size && Nat.ble (off + vs.length) cs.length && vs.all cellV then some { H with bs := setB H.bs i (.cells false (putF cs off vs)) } else none
    | _, _ => none
  | _ => none

theorem aStore_sound {P : Program} {T : TypeId → Option TI} (hT : TOk P T) {B : Nat} {ρ : BMap} {H H' : AH} {w : World} {t : TypeId} {x x' v v' : Value} (h : aStore T H t x v = some H') (hH : HRel B ρ H.bs w) (hx : VRel ρ x x') (hv : VRel ρ v v') :
    ∃ w', (Instr.storeAt t x' v').run P w = .ok () w' ∧ Post B ρ H w H' ρ w' := by
  unfold aStore at h
  split at h
  · rename_i i off
    split at h
    · rename_i cs y hi ht
      dsimp only at h
      split at h
      · rename_i hc
        simp only [Bool.and_eq_true, Nat.beq_eq, Nat.ble_eq] at hc
        obtain ⟨⟨hc1, hc2⟩, hc3⟩ := hc
        rw [putF_eq hc2] at h
        cases h
        cases hx with
        | ptr hρ =>
          rename_i b o tot
          have hcs := vrel_cells hv
          obtain ⟨w', h1, h2⟩ := run_stores (P := P) hH hi hρ hcs.list hc3 hc2
          refine ⟨w', ?_, h2⟩
          have hsz : v'.cells.size = y.size := by rw [← hcs.1, ← hc1]; simp
          simp only [Instr.storeAt, Instr.sureAddr, Sem.run_bind, Sem.run_pure, Result.andThen_ok, storeVar, hT.size ht w, hsz, ne_eq, not_true_eq_false, if_false, h1]
      · cases h
    · cases h
  · cases h

/-- Strings that are ranged over. -/
noncomputable def aNext (H : AH) (x : Value) : Option (Value × AH) :=
  match x with
  | .pointer (some ⟨i, 0, none⟩) =>
    match lookB H.bs i with
    | some (.iter s pos) =>
      if Nat.blt pos s.size then
        let (c, width) := Utf8.decode s pos
        some (.tuple #[.bool true, goInt pos, .int .i32 c], { H with bs := setB H.bs i (.iter s (pos + width)) })
      else some (.tuple #[.bool false], H)
    | _ => none
  | _ => none

theorem setObj_other (w : World) (r : Nat) (o : Obj) (k : Nat) (h : k ≠ r) : (w.heap.setIfInBounds r o)[k]? = w.heap[k]? := by
  rw [Array.getElem?_setIfInBounds]
  have : ¬ r = k := fun e => h e.symm
  simp [this]

theorem setObj_self (w : World) (r : Nat) (o o' : Obj) (h : w.heap[r]? = some o') : (w.heap.setIfInBounds r o)[r]? = some o := by
  have := (Array.getElem?_eq_some_iff.1 h).1
  simp [this]

theorem below_setObj {B : Nat} (w : World) (r : Nat) (o : Obj) (h : B ≤ r) : Below B w { w with heap := w.heap.setIfInBounds r o } :=
  ⟨rfl, rfl, rfl, by simp, fun k hk => setObj_other w r o k (by omega)⟩

theorem aNext_sound {P : Program} {B : Nat} {ρ : BMap} {H H' : AH} {w : World} {x x' v : Value} (h : aNext H x = some (v, H')) (hH : HRel B ρ H.bs w) (hx : VRel ρ x x') (ty : TypeId) :
    ∃ u w', (Instr.next x' true ty).run P w = .ok u w' ∧ VRel ρ v u ∧ Post B ρ H w H' ρ w' := by
  have one : ∀ (l : List Value), (∀ v ∈ l, VRel ρ v v) → VRel ρ (.tuple l.toArray) (.tuple l.toArray) := fun l hl => .tuple rfl fun j a b ha hb => by
    rw [ha] at hb; cases hb
    exact hl a (List.mem_of_getElem? (by simpa using ha))
  unfold aNext at h
  split at h
  · rename_i i
    split at h
    · rename_i s pos hi
      cases hx with
      | ptr hρ =>
        rename_i b o tot
        obtain ⟨y, hy, hr⟩ := hH.blk i _ hi
        rw [hρ] at hy; cases hy
        obtain ⟨hb, hB, ho⟩ := hr
        simp only at hb hB ho
        subst ho
        have hget : (getObj b).run P w = .ok (.stringIter s pos) w := by simp [getObj, Sem.run, hb]
        split at h
        · rename_i hlt
          have hlt' : pos < s.size := by simpa [Nat.blt_eq] using hlt
          cases h
          refine ⟨.tuple #[.bool true, goInt pos, .int .i32 (Utf8.decode s pos).1], { w with heap := w.heap.setIfInBounds b (.stringIter s (pos + (Utf8.decode s pos).2)) }, ?_, ?_, Ext.refl ρ, fun _ _ => rfl, ?_, below_setObj w b _ hB⟩
          · simp only [Instr.next, Nat.add_zero, Sem.run_bind, hget, Result.andThen_ok, hlt', if_true]
            simp [setObj, Sem.run, hb]
          · exact one [.bool true, goInt pos, .int .i32 (Utf8.decode s pos).1] (fun v hv => by
              simp only [List.mem_cons, List.not_mem_nil, or_false] at hv
              rcases hv with rfl | rfl | rfl
              · exact .bool _
              · exact .int _ _
              · exact .int _ _)
          · refine hH.change hi rfl rfl hρ (by simp) (fun j hj => setObj_other w b _ j hj) ⟨setObj_self w b _ _ hb, hB, rfl⟩
        · rename_i hlt
          have hlt' : ¬ pos < s.size := by simpa [Nat.blt_eq] using hlt
          cases h
          refine ⟨.tuple #[.bool false], w, ?_, ?_, Post.same hH⟩
          · simp only [Instr.next, Nat.add_zero, Sem.run_bind, hget, Result.andThen_ok, hlt', if_false, Sem.run_pure]
          · exact one [.bool false] (fun v hv => by
              simp only [List.mem_cons, List.not_mem_nil, or_false] at hv
              subst hv; exact .bool _)
    · cases h
  · cases h

end Go.Proofs.Ytjginpeoblilpaa
