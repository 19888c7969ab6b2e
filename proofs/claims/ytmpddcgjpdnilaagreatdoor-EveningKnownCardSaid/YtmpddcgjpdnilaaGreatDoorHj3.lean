/-
  What is proved: what a row's condition on the package-level variables says of a world: their cells lie there (data of numbers, bools and strings, in arrays).
-/
import Derived.Test.YtmpddcgjpdnilaaGreatDoorEvR
import Derived.Test.YtmpddcgjpdnilaaGreatDoorEvW
import Derived.Test.YtmpddcgjpdnilaaGreatDoorHj2
import Derived.Lay
namespace Go.Proofs.YtmpddcgjpdnilaaGreatDoor
open Go.ChangeShapes Go.WideShapes Go.ChangeAt Go.WideElems Go.RowKit
set_option linter.unusedSimpArgs false
set_option linter.unusedVariables false

/-- Parts side by side. -/
noncomputable def flatL (f : DataW Unit → Option (List Value)) : List (DataW Unit) → Option (List Value)
  | [] => some []
  | d :: r => match f d, flatL f r with
    | some a, some b => some (a ++ b)
    | _, _ => none

/-- Fields side by side, from an offset on to the end. -/
noncomputable def flatS (P : Program) (tot : Nat) (f : TypeId → DataW Unit → Option (List Value)) : List Field → Nat → List (DataW Unit) → Option (List Value)
  | [], o, [] => if Nat.beq o tot then some [] else none
  | fd :: fs, o, d :: r => if Nat.beq fd.offset o then
      match f fd.type d, flatS P tot f fs (o + P.cellsOf fd.type) r with
      | some a, some b => some (a ++ b)
      | _, _ => none
    else none
  | _, _, _ => none

theorem flatS_parts {P : Program} {f : TypeId → DataW Unit → Option (List Value)} {cs : List Value} : ∀ (fs : List Field) (o : Nat) (ds : List (DataW Unit)) (l : List Value),
    (∀ (i : Nat) (fd : Field) (x : DataW Unit), fs[i]? = some fd → ds[i]? = some x → ∀ l', f fd.type x = some l' → (cs.drop fd.offset).take (P.cellsOf fd.type) = l') → flatS P cs.length f fs o ds = some l → cs.drop o = l
  | [], o, [], l, _, h => by
    simp only [flatS] at h
    split at h
    · rename_i ho
      cases h
      rw [Nat.eq_of_beq_eq_true ho]
      simp
    · cases h
  | [], o, d :: r, l, _, h => by simp [flatS] at h
  | fd :: fs, o, [], l, _, h => by simp [flatS] at h
  | fd :: fs, o, d :: r, l, hp, h => by
    simp only [flatS] at h
    split at h
    · rename_i ho
      have ho : fd.offset = o := Nat.eq_of_beq_eq_true ho
      split at h
      · rename_i a b ha hb
        cases h
        have h0 := hp 0 fd d rfl rfl a ha
        have ih := flatS_parts (cs := cs) fs (o + P.cellsOf fd.type) r b (fun i fd' x h1 h2 => hp (i + 1) fd' x (by simpa using h1) (by simpa using h2)) hb
        rw [ho] at h0
        rw [← h0, ← ih, ← List.drop_drop, List.take_append_drop]
      · cases h
    · cases h

/-- The cells of a datum. -/
noncomputable def flatD (P : Program) : Nat → TypeId → DataW Unit → Option (List Value)
  | _ + 1, t, .lit (.int k z) => match P.underlying t with
    | some (.int k') => if sameK k k' then some [.int k z] else none
    | _ => none
  | _ + 1, t, .lit (.string bs) => match P.underlying t with
    | some .string => some [.string ⟨bs.toArray⟩]
    | _ => none
  | n + 1, t, .agg ds => match P.underlying t with
    | some (.array m e) => if Nat.beq m ds.length && Nat.beq (P.cellsOf t) (m * P.cellsOf e) then flatL (flatD P n e) ds else none
    | some (.struct fs) => flatS P (P.cellsOf t) (flatD P n) fs.toList 0 ds
    | _ => none
  | _ + 1, t, .lit (.bool b) => match P.underlying t with
    | some .bool => some [.bool b]
    | _ => none
  | _, _, _ => none

theorem flatL_parts {f : DataW Unit → Option (List Value)} {c : Nat} : ∀ (ds : List (DataW Unit)) (cs l : List Value), cs.length = ds.length * c → (∀ (i : Nat) (x : DataW Unit), ds[i]? = some x → ∀ l', f x = some l' → (cs.drop (i * c)).take c = l') → flatL f ds = some l → cs = l
  | [], cs, l, hl, _, h => by
    cases h
    simpa using hl
  | d :: r, cs, l, hl, hp, h => by
    unfold flatL at h
    split at h
    · rename_i a b ha hb
      cases h
      have h0 := hp 0 d rfl a ha
      simp only [Nat.zero_mul, List.drop_zero] at h0
      have hlen : cs.length = r.length * c + c := by rw [hl, List.length_cons, Nat.add_mul, Nat.one_mul]
      have ih := flatL_parts (f := f) (c := c) r (cs.drop c) b (by rw [List.length_drop]; omega) (fun i x hx l' hl' => by
        have := hp (i + 1) x (by simpa using hx) l' hl'
        rw [List.drop_drop, show c + i * c = (i + 1) * c by rw [Nat.add_mul, Nat.one_mul, Nat.add_comm]]
        exact this) hb
      rw [← h0, ← ih, List.take_append_drop]
    · cases h

theorem flatD_trod {P : Program} {W : World} : ∀ (n : Nat) (t : TypeId) (d : DataW Unit) (l cs : List Value) (f : Nat) (p : List MemPlace), flatD P n t d = some l → DataW.trod (fun _ => ()) P W 0 (fun _ => true) false f t cs = some (d, p) → cs = l
  | 0, t, d, l, cs, f, p, h, _ => by simp [flatD] at h
  | n + 1, t, d, l, cs, f, p, h, ht => by
    unfold flatD at h
    split at h
    · rename_i m k z e
      split at h
      · rename_i k' hu
        split at h
        · rename_i hk
          cases h
          obtain ⟨q, rfl, hx, _⟩ := DataW.trod_int hu ht
          simp only [Prod.mk.injEq, DataW.lit.injEq, Lit.int.injEq] at hx
          rw [hx.1.1, hx.1.2]
        · cases h
      · cases h
    · rename_i m bs e
      split at h
      · rename_i hu
        cases h
        obtain ⟨s, rfl, hx, _⟩ := DataW.trod_string hu ht
        simp only [Prod.mk.injEq, DataW.lit.injEq, Lit.string.injEq] at hx
        rw [hx.1]
      · cases h
    · rename_i m ds e
      cases e
      split at h
      · rename_i k e hu
        split at h
        · rename_i hc
          simp only [Bool.and_eq_true, Nat.beq_eq] at hc
          obtain ⟨xs, m', _, hx1, hlen, hn6, hel⟩ := DataW.trod_array hu ht
          simp only [Prod.mk.injEq, DataW.agg.injEq] at hx1
          refine flatL_parts (c := P.cellsOf e) ds cs l (by rw [hlen, hc.2, hc.1]) (fun i x hx l' hl' => ?_) h
          have hi : i < ds.length := (List.getElem?_eq_some_iff.1 hx).1
          have h1 := hel i (by omega)
          rw [hx1.1, List.getElem?_map, Option.map_eq_some_iff] at hx
          obtain ⟨y, hy, hyx⟩ := hx
          rw [hy] at h1
          exact flatD_trod n e x l' _ m' y.2 hl' (by rw [h1, ← hyx])
        · cases h
      · rename_i fs hu
        obtain ⟨xs, m', _, hx1, hlen, hn6, hel⟩ := DataW.trod_struct hu ht
        simp only [Prod.mk.injEq, DataW.agg.injEq] at hx1
        rw [← hlen] at h
        have := flatS_parts (cs := cs) fs.toList 0 ds l (fun i fd x hfd hx l' hl' => by
          have h1 := hel i fd (by simpa using hfd)
          rw [hx1.1, List.getElem?_map, Option.map_eq_some_iff] at hx
          obtain ⟨y, hy, hyx⟩ := hx
          rw [hy] at h1
          exact flatD_trod n fd.type x l' _ m' y.2 hl' (by rw [h1, ← hyx])) h
        simpa using this
      · cases h
    · rename_i m b e
      split at h
      · rename_i hu
        cases h
        obtain ⟨q, rfl, hx⟩ := DataW.trod_bool hu ht
        simp only [Prod.mk.injEq, DataW.lit.injEq, Lit.bool.injEq] at hx
        rw [hx.1]
      · cases h
    · cases h

theorem laidVars_get {P : Program} {W : World} : ∀ {laid : List (String × DataW Unit)} {ps : List MemPlace}, DataW.LaidVars P W laid ps → ∀ {n : String} {d : DataW Unit}, (n, d) ∈ laid →
    ∃ g t cs f p, P.globalNamed n = some g ∧ (P.globals[g]?).map (·.type) = some t ∧ W.var? P n = some cs ∧ DataW.trod (fun _ => ()) P W 0 (fun _ => true) false f t cs.toList = some (d, p)
  | [], _, _, _, _, hm => by cases hm
  | (n', d') :: r, ps, h, n, d, hm => by
    obtain ⟨g, t, cs, f, p, q, h1, h2, h3, h4, h5, _⟩ := h
    rcases List.mem_cons.1 hm with e | hm
    · cases e
      exact ⟨g, t, cs, f, p, h1, h2, h3, h4⟩
    · exact laidVars_get h5 hm

theorem var_cells {P : Program} {W : World} {laid : List (String × DataW Unit)} (h : laidMet P laid W) {n : String} {d : DataW Unit} {g : Nat} {t : TypeId} {l : List Value} (hm : (n, d) ∈ laid) (hg : P.globalNamed n = some g)
    (ht : (P.globals[g]?).map (·.type) = some t) (hf : flatD P 6 t d = some l) : ∀ (j : Nat) (v : Value), l[j]? = some v → W.cell? ⟨g, j, none⟩ = some v := by
  obtain ⟨ps, h, _⟩ := h
  obtain ⟨g', t', cs, f, p, h1, h2, h3, h4⟩ := laidVars_get h hm
  obtain rfl := Option.some.inj (hg.symm.trans h1)
  obtain rfl := Option.some.inj (ht.symm.trans h2)
  have e := flatD_trod 6 t d l cs.toList f p hf h4
  intro j v hv
  rw [World.var?_cell h1 h3 j]
  rw [← e] at hv
  simpa using hv

end Go.Proofs.YtmpddcgjpdnilaaGreatDoor
