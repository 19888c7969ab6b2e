/-
  What is proved: nothing of the program. This text holds the operations on maps: a new map, a look at it, an entry.
-/
import Derived.Test.YtjginpeoblilpaaEvI
import Derived.MapKept
import Derived.WideKeyRuns
namespace Go.Proofs.Ytjginpeoblilpaa
open Go.RowKit Go.MapKept
set_option linter.unusedSimpArgs false
set_option linter.unusedVariables false

noncomputable def scalV : TypeDesc → Value → Bool
  | .int _, .int _ _ => true
  | .bool, .bool _ => true
  | .string, .string _ => true
  | _, _ => false

theorem scal_agg {d : TypeDesc} {v : Value} (h : scalV d v = true) : aggD d = false := by
  cases d <;> first | rfl | (simp [scalV] at h)

theorem run_check_scal {P : Program} {w : World} {t : TypeId} {d : TypeDesc} {v : Value} (hu : P.underlying t = some d) (h : scalV d v = true) (em : Bool) (n : Nat) : (Instr.checkKey em (n + 1) t v).run P w = .ok () w := by
  unfold Instr.checkKey
  simp only [Sem.run_bind, run_underlying hu, Result.andThen_ok]
  cases d <;> cases v <;> simp_all [scalV]

theorem aPart_run {P : Program} {T : TypeId → Option TI} (hT : TOk P T) {t : TypeId} {cs : Array Value} {off : Nat} {v : Value} (h : aPart T t cs off = some v) (w : World) : (part t cs off).run P w = .ok v w := by
  rw [aPart_eq] at h
  split at h
  · rename_i x hx
    unfold part
    simp only [Sem.run_bind, hT.agg hx w, Result.andThen_ok]
    split at h
    · rename_i ha
      cases h
      rw [ha]
      simp [hT.size hx w]
    · rename_i ha
      have ha' : aggD x.desc = false := by simpa using ha
      rw [ha']
      simp [h]
  · cases h

/-- A key of which each part may be asked for. -/
noncomputable def ckOk (T : TypeId → Option TI) : Nat → TypeId → Value → Bool
  | 0, _, _ => false
  | n + 1, t, v => match T t with
    | some y => match y.desc, v with
      | .int _, .int _ _ => true
      | .bool, .bool _ => true
      | .string, .string _ => true
      | .array m e, .agg cs => match T e with
        | some z => (List.range m).all fun i => match aPart T e cs (i * z.size) with
          | some c => ckOk T n e c
          | none => false
        | none => false
      | .struct fs, .agg cs => fs.toList.all fun f => match aPart T f.type cs f.offset with
        | some c => ckOk T n f.type c
        | none => false
      | _, _ => false
    | none => false

theorem ckOk_run {P : Program} {T : TypeId → Option TI} (hT : TOk P T) (em : Bool) (w : World) : ∀ (n d : Nat) (t : TypeId) (v : Value), ckOk T n t v = true → (Instr.checkKey em (d + n) t v).run P w = .ok () w
  | 0, d, t, v, h => by simp [ckOk] at h
  | n + 1, d, t, v, h => by
    unfold ckOk at h
    split at h
    · rename_i y hy
      have hu := hT.under hy
      split at h
      · rename_i hd
        exact run_check_scal (by rw [hu, hd]) rfl em (d + n)
      · rename_i hd
        exact run_check_scal (by rw [hu, hd]) rfl em (d + n)
      · rename_i hd
        exact run_check_scal (by rw [hu, hd]) rfl em (d + n)
      · rename_i m e cs hd
        split at h
        · rename_i z hz
          have hue : P.underlying t = some (.array m e) := by rw [hu, hd]
          rw [← Nat.add_assoc, Instr.checkKey]
          simp only [Sem.run_bind, run_underlying hue, Result.andThen_ok]
          simp only [Std.Legacy.Range.forIn_eq_forIn_range', Std.Legacy.Range.size, Nat.sub_zero, Nat.add_one_sub_one, Nat.div_one]
          rw [List.range_eq_range'] at h
          have each := List.all_eq_true.1 h
          clear h
          generalize List.range' 0 m = is at each
          induction is with
          | nil => simp
          | cons j is ih =>
            have hj := each j (by simp)
            split at hj
            · rename_i c hc
              have p1 := aPart_run hT hc w
              have p2 := ckOk_run hT em w n d e c hj
              simp only [List.forIn_cons, Sem.run_bind, hT.size hz w, Result.andThen_ok, p1, p2, Sem.run_pure]
              exact ih (fun y hy => each y (by simp [hy]))
            · cases hj
        · cases h
      · rename_i fs cs hd
        have hue : P.underlying t = some (.struct fs) := by rw [hu, hd]
        rw [← Nat.add_assoc, Instr.checkKey]
        simp only [Sem.run_bind, run_underlying hue, Result.andThen_ok]
        have each := List.all_eq_true.1 h
        clear h hd hue
        rw [← Array.forIn_toList]
        generalize fs.toList = is at each
        induction is with
        | nil => simp
        | cons f is ih =>
          have hj := each f (by simp)
          split at hj
          · rename_i c hc
            have p1 := aPart_run hT hc w
            have p2 := ckOk_run hT em w n d f.type c hj
            by_cases hn : f.name = "_"
            · simp only [List.forIn_cons, Sem.run_bind, hn, ne_eq, not_true_eq_false, if_false, Result.andThen_ok, Sem.run_pure]
              exact ih (fun y hy => each y (by simp [hy]))
            · simp only [List.forIn_cons, Sem.run_bind, hn, ne_eq, not_false_eq_true, if_true, Result.andThen_ok, p1, p2, Sem.run_pure]
              exact ih (fun y hy => each y (by simp [hy]))
          · cases hj
      · cases h
    · cases h

/-- A key that may be asked for. -/
noncomputable def keyOk (T : TypeId → Option TI) (kt : TypeId) (k : Value) : Bool := ckOk T 4 kt k

theorem run_check {P : Program} {T : TypeId → Option TI} (hT : TOk P T) {kt : TypeId} {k : Value} (h : keyOk T kt k = true) (em : Bool) (w : World) : (Instr.checkKey em 10000 kt k).run P w = .ok () w :=
  ckOk_run hT em w 4 9996 kt k h

noncomputable def aSame (T : TypeId → Option TI) (y : TI) (k q : Value) : Option Bool :=
  match y.desc, k, q with
  | .int _, .int a n, .int b m => if sameK a b then some (n == m) else none
  | .bool, .bool a, .bool b => some (a == b)
  | .string, .string a, .string b => some (bytesEq a b)
  | .array _ _, .agg a, .agg b => if y.eqOk then aEqs T y.desc a b else none
  | .struct _, .agg a, .agg b => if y.eqOk then aEqs T y.desc a b else none
  | _, _, _ => none

noncomputable def aFind (T : TypeId → Option TI) (y : TI) (k : Value) : List (Value × Value) → Nat → Option (Option (Nat × Value × Value))
  | [], _ => some none
  | (q, v) :: r, i => match aSame T y k q with
    | some true => some (some (i, q, v))
    | some false => aFind T y k r (i + 1)
    | none => none

/-- Entries, place by place. -/
noncomputable def EsRel (ρ : BMap) (es : List (Value × Value)) (ces : List MapEntry) : Prop :=
  ces.length = es.length ∧ ∀ (j : Nat) (k v : Value), es[j]? = some (k, v) → ∃ e, ces[j]? = some e ∧ e.key = k ∧ VRel ρ v e.val

theorem EsRel.tail {ρ : BMap} {p : Value × Value} {es : List (Value × Value)} {e : MapEntry} {ces : List MapEntry} (h : EsRel ρ (p :: es) (e :: ces)) : EsRel ρ es ces :=
  ⟨by have := h.1; simpa using this, fun j k v hj => by
    obtain ⟨e', h1, h2⟩ := h.2 (j + 1) k v (by simpa using hj)
    exact ⟨e', by simpa using h1, h2⟩⟩

noncomputable def FoundRel (ρ : BMap) (es : List (Value × Value)) (i0 : Nat) (a : Option (Nat × Value × Value)) (c : Option (Nat × Value)) : Prop :=
  match a, c with
  | none, none => True
  | some (i, q, v), some (i', u) => i' = i ∧ VRel ρ v u ∧ i0 ≤ i ∧ es[i - i0]? = some (q, v)
  | _, _ => False

theorem bytesEq_beq (a b : ByteArray) : bytesEq a b = (a == b) := by
  rw [Bool.eq_iff_iff, bytesEq_eq, bytes_beq]
  constructor
  · intro h
    rw [ByteArray.toList_eq, ByteArray.toList_eq] at h
    exact Go.WideShapes.bytes_inj (eq_of_beq h)
  · intro h
    rw [h]; exact beq_self_eq_true _

theorem sameK_refl (k : IntKind) : sameK k k = true := by cases k <;> rfl

theorem find_now {T : TypeId → Option TI} {y : TI} {k : Value} {ρ : BMap} (hs : aggD y.desc = false) : ∀ (es : List (Value × Value)) (ces : List MapEntry) (i : Nat) (a : Option (Nat × Value × Value)),
    aFind T y k es i = some a → EsRel ρ es ces → ∃ c, Instr.findNow y.desc k ces i = some c ∧ FoundRel ρ es i a c
  | [], [], i, a, h, _ => by
    cases h
    exact ⟨none, rfl, trivial⟩
  | [], e :: ces, i, a, h, hr => by have := hr.1; simp at this
  | p :: es, [], i, a, h, hr => by have := hr.1; simp at this
  | (q, v) :: es, e :: ces, i, a, h, hr => by
    obtain ⟨e', h1, h2, h3⟩ := hr.2 0 q v rfl
    simp only [List.getElem?_cons_zero, Option.some.injEq] at h1
    subst h1
    have hsame : ∀ b, aSame T y k q = some b → Instr.sameNow y.desc k e.key = some b := by
      intro b hb
      rw [h2]
      unfold aSame at hb
      split at hb
      · rename_i hd
        split at hb
        · rename_i hk
          cases hb
          have := sameK_eq hk
          subst this
          rw [hd]
          simp [Instr.sameNow]
        · cases hb
      · rename_i hd
        cases hb
        rw [hd]; rfl
      · rename_i hd
        cases hb
        rw [hd, bytesEq_beq]; rfl
      · rename_i hd
        rw [hd] at hs; cases hs
      · rename_i hd
        rw [hd] at hs; cases hs
      · cases hb
    simp only [aFind] at h
    split at h
    · rename_i hb
      cases h
      refine ⟨some (i, e.val), ?_, rfl, h3, Nat.le_refl _, by simp⟩
      simp only [Instr.findNow, hsame _ hb]
    · rename_i hb
      obtain ⟨c, g1, g2⟩ := find_now hs es ces (i + 1) a h hr.tail
      refine ⟨c, by simp only [Instr.findNow, hsame _ hb, g1], ?_⟩
      unfold FoundRel at g2 ⊢
      split at g2
      · trivial
      · obtain ⟨f1, f2, f3, f4⟩ := g2
        rename_i i2 q2 v2 _ _
        refine ⟨f1, f2, by omega, ?_⟩
        rw [show i2 - i = (i2 - (i + 1)) + 1 by omega]
        simpa using f4
      · exact g2.elim
    · cases h

theorem find_asking {P : Program} {T : TypeId → Option TI} (hT : TOk P T) {kt : TypeId} {y : TI} (hy : T kt = some y) {k : Value} {ρ : BMap} (hd : aggD y.desc = true) (w : World) : ∀ (es : List (Value × Value)) (ces : List MapEntry) (i : Nat) (a : Option (Nat × Value × Value)),
    aFind T y k es i = some a → EsRel ρ es ces → ∃ c, (Instr.findAsking kt k ces i).run P w = .ok c w ∧ FoundRel ρ es i a c
  | [], [], i, a, h, _ => by
    cases h
    exact ⟨none, by simp [Instr.findAsking], trivial⟩
  | [], e :: ces, i, a, h, hr => by have := hr.1; simp at this
  | p :: es, [], i, a, h, hr => by have := hr.1; simp at this
  | (q, v) :: es, e :: ces, i, a, h, hr => by
    obtain ⟨e', h1, h2, h3⟩ := hr.2 0 q v rfl
    simp only [List.getElem?_cons_zero, Option.some.injEq] at h1
    subst h1
    have hsame : ∀ b, aSame T y k q = some b → (Op.equal kt k e.key).run P w = .ok b w := by
      intro b hb
      rw [h2]
      unfold aSame at hb
      split at hb
      · rename_i hd'; rw [hd'] at hd; cases hd
      · rename_i hd'; rw [hd'] at hd; cases hd
      · rename_i hd'; rw [hd'] at hd; cases hd
      · split at hb
        · rename_i he
          exact aEqs_sound hT hy ((hT kt y hy).2.2.2.2.1 he).1 hb w
        · cases hb
      · split at hb
        · rename_i he
          exact aEqs_sound hT hy ((hT kt y hy).2.2.2.2.1 he).1 hb w
        · cases hb
      · cases hb
    simp only [aFind] at h
    split at h
    · rename_i hb
      cases h
      refine ⟨some (i, e.val), ?_, rfl, h3, Nat.le_refl _, by simp⟩
      simp [Instr.findAsking, hsame _ hb]
    · rename_i hb
      obtain ⟨c, g1, g2⟩ := find_asking hT hy hd w es ces (i + 1) a h hr.tail
      refine ⟨c, by simp [Instr.findAsking, hsame _ hb, g1], ?_⟩
      unfold FoundRel at g2 ⊢
      split at g2
      · trivial
      · obtain ⟨f1, f2, f3, f4⟩ := g2
        rename_i i2 q2 v2 _ _
        refine ⟨f1, f2, by omega, ?_⟩
        rw [show i2 - i = (i2 - (i + 1)) + 1 by omega]
        simpa using f4
      · exact g2.elim
    · cases h

theorem run_find {P : Program} {T : TypeId → Option TI} (hT : TOk P T) {kt : TypeId} {y : TI} (hy : T kt = some y) {k : Value} {ρ : BMap} (w : World) {es : List (Value × Value)} {ces : List MapEntry} {a : Option (Nat × Value × Value)}
    (h : aFind T y k es 0 = some a) (hr : EsRel ρ es ces) : ∃ c, (Instr.findKey kt k ces).run P w = .ok c w ∧ FoundRel ρ es 0 a c := by
  have hu := hT.under hy
  by_cases hd : aggD y.desc = true
  · obtain ⟨c, h1, h2⟩ := find_asking hT hy hd w es ces 0 a h hr
    refine ⟨c, ?_, h2⟩
    rw [run_findKey_eq (P := P) w (k := kt) (by rw [hu]; revert hd; cases y.desc <;> simp [aggD]) k ces]
    exact h1
  · obtain ⟨c, h1, h2⟩ := find_now (by simpa using hd) es ces 0 a h hr
    exact ⟨c, run_findKey hu h1, h2⟩

/-- The entries of a map. -/
noncomputable def mapEs (H : AH) (m : Value) : Option (List (Value × Value)) :=
  match m with
  | .map none => some []
  | .map (some r) => match lookB H.bs r with
    | some (.amap _ es) => some es
    | _ => none
  | _ => none

noncomputable def aLookup (T : TypeId → Option TI) (H : AH) (t : TypeId) (m k : Value) (ok : Bool) : Option Value :=
  match T t with
  | some { desc := .map kt et, .. } =>
    match T kt, T et, mapEs H m with
    | some y, some z, some es =>
      if closedV 3 k && keyOk T kt k then
        match aFind T y k es 0 with
        | some (some (_, _, v)) => some (if ok then .tuple #[v, .bool true] else v)
        | some none => some (if ok then .tuple #[z.zero, .bool false] else z.zero)
        | none => none
      else none
    | _, _, _ => none
  | _ => none

theorem vrel_two {ρ : BMap} {v u : Value} (h : VRel ρ v u) (b : Bool) : VRel ρ (.tuple #[v, .bool b]) (.tuple #[u, .bool b]) := .tuple rfl fun j x y hx hy => by
  match j with
  | 0 => simp at hx hy; subst hx; subst hy; exact h
  | 1 => simp at hx hy; subst hx; subst hy; exact .bool b
  | j + 2 => simp at hx

theorem brel_es {ρ : BMap} {B : Nat} {w : World} {x : Nat × Nat × Nat} {ro : Bool} {es : List (Value × Value)} (h : BRel ρ B w x (.amap ro es)) : ∃ ces clock, w.heap[x.1]? = some (.map ces clock) ∧ EsRel ρ es ces.toList := by
  obtain ⟨ces, cl, h1, h2, h3, _⟩ := h
  refine ⟨ces, cl, h1, by simpa using h2, fun j k v hj => ?_⟩
  obtain ⟨e, he, r⟩ := h3 j k v hj
  exact ⟨e, by simpa using he, r⟩

theorem aLookup_sound {P : Program} {T : TypeId → Option TI} (hT : TOk P T) {B : Nat} {ρ : BMap} {H : AH} {w : World} {t : TypeId} {m k m' k' v : Value} {ok : Bool} (h : aLookup T H t m k ok = some v) (hH : HRel B ρ H.bs w) (hm : VRel ρ m m') (hk : VRel ρ k k') :
    ∃ u, (Instr.lookup t m' k' ok).run P w = .ok u w ∧ VRel ρ v u := by
  unfold aLookup at h
  split at h
  · rename_i kt et _ ht
    split at h
    · rename_i y z es hy hz hes
      split at h
      · rename_i hc
        simp only [Bool.and_eq_true] at hc
        have ek := (closedV_eq 3 k k' hc.1 hk).symm
        subst ek
        have key : ∃ ces : Array MapEntry, EsRel ρ es ces.toList ∧ ((m' = .map none ∧ ces = #[]) ∨ ∃ b cl, m' = .map (some b) ∧ w.heap[b]? = some (.map ces cl)) := by
          unfold mapEs at hes
          split at hes
          · cases hes
            cases hm
            exact ⟨#[], ⟨rfl, fun j k v hj => by simp at hj⟩, .inl ⟨rfl, rfl⟩⟩
          · rename_i r0
            split at hes
            · rename_i ro es' hl
              cases hes
              cases hm with
              | mptr hρ =>
                obtain ⟨x, hx, hr⟩ := hH.blk r0 _ hl
                rw [hρ] at hx; cases hx
                obtain ⟨ces, cl, h1, h2⟩ := brel_es hr
                exact ⟨ces, h2, .inr ⟨_, cl, rfl, h1⟩⟩
            · cases hes
          · cases hes
        obtain ⟨ces, hes', hm'⟩ := key
        have hchk := run_check (P := P) hT hc.2 ces.isEmpty w
        unfold Instr.lookup
        split at h
        · rename_i i q v0 hf
          cases h
          obtain ⟨c, g1, g2⟩ := run_find hT hy w hf hes'
          cases c with
          | none => exact g2.elim
          | some p =>
            obtain ⟨i', u⟩ := p
            obtain ⟨_, f2, _⟩ := g2
            refine ⟨if ok then .tuple #[u, .bool true] else u, ?_, ?_⟩
            · rcases hm' with ⟨rfl, rfl⟩ | ⟨b, cl, rfl, hb⟩
              · simp only [Sem.run_bind, run_underlying (hT.under ht) w, Result.andThen_ok, Sem.run_pure, hchk, g1]
              · simp only [Sem.run_bind, run_underlying (hT.under ht) w, Result.andThen_ok, Sem.run_pure, MapKept.run_getObj_map hb, hchk, g1]
            · cases ok
              · exact f2
              · exact vrel_two f2 true
        · rename_i hf
          cases h
          obtain ⟨c, g1, g2⟩ := run_find hT hy w hf hes'
          cases c with
          | some p => exact g2.elim
          | none =>
            have hz0 : VRel ρ z.zero z.zero := closedV_rel ρ 6 _ (hT et z hz).2.2.1
            refine ⟨if ok then .tuple #[z.zero, .bool false] else z.zero, ?_, ?_⟩
            · rcases hm' with ⟨rfl, rfl⟩ | ⟨b, cl, rfl, hb⟩
              · simp only [Sem.run_bind, run_underlying (hT.under ht) w, Result.andThen_ok, Sem.run_pure, hchk, g1, hT.zeroV hz w]
              · simp only [Sem.run_bind, run_underlying (hT.under ht) w, Result.andThen_ok, Sem.run_pure, MapKept.run_getObj_map hb, hchk, g1, hT.zeroV hz w]
            · cases ok
              · exact hz0
              · exact vrel_two hz0 false
        · cases h
      · cases h
    · cases h
  · cases h

noncomputable def aMapUpdate (T : TypeId → Option TI) (H : AH) (t : TypeId) (m k v : Value) : Option AH :=
  match T t, m with
  | some { desc := .map kt _, .. }, .map (some r) =>
    match T kt, lookB H.bs r with
    | some y, some (.amap false es) =>
      if closedV 3 k && keyOk T kt k then
        match aFind T y k es 0 with
        | some (some (i, q, _)) => if Instr.sameBits 10000 q k then some { H with bs := setB H.bs r (.amap false (es.set i (k, v))) } else none
        | some none => some { H with bs := setB H.bs r (.amap false (es ++ [(k, v)])) }
        | none => none
      else none
    | _, _ => none
  | _, _ => none

theorem aMapUpdate_sound {P : Program} {T : TypeId → Option TI} (hT : TOk P T) {B : Nat} {ρ : BMap} {H H' : AH} {w : World} {t : TypeId} {m k v m' k' v' : Value} (h : aMapUpdate T H t m k v = some H') (hH : HRel B ρ H.bs w) (hm : VRel ρ m m') (hk : VRel ρ k k') (hv : VRel ρ v v') :
    ∃ w', (Instr.mapUpdate t m' k' v').run P w = .ok () w' ∧ Post B ρ H w H' ρ w' := by
  unfold aMapUpdate at h
  split at h
  · rename_i kt et _ r ht
    split at h
    · rename_i y es hy hl
      split at h
      · rename_i hc
        simp only [Bool.and_eq_true] at hc
        have ek := (closedV_eq 3 k k' hc.1 hk).symm
        subst ek
        cases hm with
        | mptr hρ =>
          rename_i b o tot
          obtain ⟨x, hx, hr⟩ := hH.blk r _ hl
          rw [hρ] at hx; cases hx
          have hBb : B ≤ b := by obtain ⟨_, _, _, _, _, h4⟩ := hr; simpa using h4
          obtain ⟨ces, cl, h1, h2⟩ := brel_es hr
          simp only at h1
          have hchk := run_check (P := P) hT hc.2 false w
          have hput : ∀ (ces' : Array MapEntry) (cl' : Nat) (es' : List (Value × Value)), EsRel ρ es' ces'.toList →
              Post B ρ H w { H with bs := setB H.bs r (.amap false es') } ρ { w with heap := w.heap.setIfInBounds b (.map ces' cl') } := by
            intro ces' cl' es' he
            refine ⟨Ext.refl ρ, fun _ _ => rfl, ?_, below_setObj w b _ hBb⟩
            refine hH.change hl rfl rfl hρ (by simp) (fun j hj => setObj_other w b _ j hj) ⟨ces', cl', setObj_self w b _ _ h1, by simpa using he.1, fun j k v hj => ?_, by simpa using hBb⟩
            obtain ⟨e, g1, g2⟩ := he.2 j k v hj
            exact ⟨e, by simpa using g1, g2⟩
          unfold Instr.mapUpdate
          split at h
          · rename_i i q v0 hf
            split at h
            · rename_i hsb
              cases h
              obtain ⟨c, g1, g2⟩ := run_find hT hy w hf h2
              cases c with
              | none => exact g2.elim
              | some p =>
                obtain ⟨i', u⟩ := p
                obtain ⟨rfl, f2, _, f4⟩ := g2
                simp only [Nat.sub_zero] at f4
                obtain ⟨e, e1, e2, e3⟩ := h2.2 i' q v0 f4
                have e1' : ces[i']? = some e := by simpa using e1
                refine ⟨{ w with heap := w.heap.setIfInBounds b (.map (ces.modify i' fun e => { e with key := k, val := v' }) cl) }, ?_, hput _ _ _ ?_⟩
                · have hstay : (Instr.keyThatStays q k).run P w = .ok k w := by
                    unfold Instr.keyThatStays
                    rw [if_pos hsb]; rfl
                  simp only [Sem.run_bind, run_underlying (hT.under ht) w, Result.andThen_ok, MapKept.run_getObj_map h1, hchk, g1, e1', Option.map_some, Option.getD_some, e2, hstay]
                  exact MapKept.run_setObj_map _ h1
                · refine ⟨by simpa using h2.1, fun j k2 v2 hj => ?_⟩
                  rw [List.getElem?_set] at hj
                  by_cases e : i' = j
                  · subst e
                    simp only [if_true] at hj
                    split at hj
                    · cases hj
                      exact ⟨{ e with key := k, val := v' }, by simp [Array.getElem?_modify, e1'], rfl, hv⟩
                    · cases hj
                  · simp only [e, if_false] at hj
                    obtain ⟨e5, g5, g6⟩ := h2.2 j k2 v2 hj
                    exact ⟨e5, by simpa [Array.getElem?_modify, e] using g5, g6⟩
            · cases h
          · rename_i hf
            cases h
            obtain ⟨c, g1, g2⟩ := run_find hT hy w hf h2
            cases c with
            | some p => exact g2.elim
            | none =>
              refine ⟨{ w with heap := w.heap.setIfInBounds b (.map (ces.push { key := k, val := v', born := cl }) (cl + 1)) }, ?_, hput _ _ _ ?_⟩
              · simp only [Sem.run_bind, run_underlying (hT.under ht) w, Result.andThen_ok, MapKept.run_getObj_map h1, hchk, g1]
                exact MapKept.run_setObj_map _ h1
              · refine ⟨by have := h2.1; simp at this ⊢; omega, fun j k2 v2 hj => ?_⟩
                have hlen : ces.size = es.length := by simpa using h2.1
                rcases Nat.lt_or_ge j es.length with hlt | hge
                · rw [List.getElem?_append_left hlt] at hj
                  obtain ⟨e5, g5, g6⟩ := h2.2 j k2 v2 hj
                  refine ⟨e5, ?_, g6⟩
                  have : j < ces.size := by omega
                  simp only [Array.toList_push]
                  rw [List.getElem?_append_left (by simpa using this)]
                  exact g5
                · rw [List.getElem?_append_right hge] at hj
                  have hj0 : j = es.length := by
                    have := (List.getElem?_eq_some_iff.1 hj).1
                    simp at this; omega
                  subst hj0
                  simp at hj
                  obtain ⟨rfl, rfl⟩ := hj
                  refine ⟨{ key := k, val := v', born := cl }, ?_, rfl, hv⟩
                  simp [hlen.symm]
          · cases h
      · cases h
    · cases h
  · cases h

/-! ### less of a map, and how much there is of it -/
noncomputable def aDelete (T : TypeId → Option TI) (H : AH) (t : TypeId) (m k : Value) : Option (Value × AH) :=
  match T t, m with
  | some { desc := .map kt _, .. }, .map (some r) =>
    match T kt, lookB H.bs r with
    | some y, some (.amap false es) =>
      if closedV 3 k && keyOk T kt k then
        match aFind T y k es 0 with
        | some (some (i, _, _)) => some (.tuple #[], { H with bs := setB H.bs r (.amap false (es.eraseIdx i)) })
        | some none => some (.tuple #[], { H with bs := setB H.bs r (.amap false es) })
        | none => none
      else none
    | _, _ => none
  | _, _ => none

theorem aDelete_next {T : TypeId → Option TI} {H H' : AH} {t : TypeId} {m k v : Value} (h : aDelete T H t m k = some (v, H')) : H'.next = H.next := by
  unfold aDelete at h
  split at h
  · split at h
    · split at h
      · split at h
        · cases h; rfl
        · cases h; rfl
        · cases h
      · cases h
    · cases h
  · cases h

theorem aDelete_sound {P : Program} {T : TypeId → Option TI} (hT : TOk P T) {B : Nat} {ρ : BMap} {H H' : AH} {w : World} {t t' ty : TypeId} {m k v m' k' : Value} (h : aDelete T H t m k = some (v, H')) (hH : HRel B ρ H.bs w) (hm : VRel ρ m m') (hk : VRel ρ k k') :
    ∃ w' u, (Builtin.delete_ #[t, t'] ty #[m', k']).run P w = .ok u w' ∧ VRel ρ v u ∧ Post B ρ H w H' ρ w' := by
  unfold aDelete at h
  split at h
  · rename_i kt et _ r ht
    split at h
    · rename_i y es hy hl
      split at h
      · rename_i hc
        simp only [Bool.and_eq_true] at hc
        have ek := (closedV_eq 3 k k' hc.1 hk).symm
        subst ek
        cases hm with
        | mptr hρ =>
          rename_i b o tot
          obtain ⟨x, hx, hr⟩ := hH.blk r _ hl
          rw [hρ] at hx; cases hx
          have hBb : B ≤ b := by obtain ⟨_, _, _, _, _, h4⟩ := hr; simpa using h4
          obtain ⟨ces, cl, h1, h2⟩ := brel_es hr
          simp only at h1
          have hchk := run_check (P := P) hT hc.2 ces.isEmpty w
          have hput : ∀ (ces' : Array MapEntry) (cl' : Nat) (es' : List (Value × Value)), EsRel ρ es' ces'.toList →
              Post B ρ H w { H with bs := setB H.bs r (.amap false es') } ρ { w with heap := w.heap.setIfInBounds b (.map ces' cl') } := by
            intro ces' cl' es' he
            refine ⟨Ext.refl ρ, fun _ _ => rfl, ?_, below_setObj w b _ hBb⟩
            refine hH.change hl rfl rfl hρ (by simp) (fun j hj => setObj_other w b _ j hj) ⟨ces', cl', setObj_self w b _ _ h1, by simpa using he.1, fun j k v hj => ?_, by simpa using hBb⟩
            obtain ⟨e, g1, g2⟩ := he.2 j k v hj
            exact ⟨e, by simpa using g1, g2⟩
          have hnil : VRel ρ (.tuple #[]) (.tuple #[]) := .tuple rfl fun j x y hx => by simp at hx
          split at h
          · rename_i i q v0 hf
            cases h
            obtain ⟨c, g1, g2⟩ := run_find hT hy w hf h2
            cases c with
            | none => exact g2.elim
            | some p =>
              obtain ⟨i', u⟩ := p
              obtain ⟨rfl, f2, _, f4⟩ := g2
              refine ⟨_, .tuple #[], ?_, hnil, hput (ces.eraseIdxIfInBounds i') cl (es.eraseIdx i') ?_⟩
              · simp only [Builtin.delete_, Sem.run_bind, run_underlying (hT.under ht) w, Result.andThen_ok, Sem.run_pure, List.getElem?_toArray, List.getElem?_cons_zero, List.getElem?_cons_succ, MapKept.run_getObj_map h1, hchk, g1, MapKept.run_setObj_map _ h1]
              · have hlen : ces.size = es.length := by simpa using h2.1
                have hE : (ces.eraseIdxIfInBounds i').toList = ces.toList.eraseIdx i' := by
                  unfold Array.eraseIdxIfInBounds
                  split
                  · exact Array.toList_eraseIdx ..
                  · rename_i hn
                    rw [List.eraseIdx_of_length_le]
                    simpa using hn
                rw [hE]
                refine ⟨by rw [List.length_eraseIdx, List.length_eraseIdx, h2.1], fun j k2 v2 hj => ?_⟩
                rw [List.getElem?_eraseIdx] at hj ⊢
                by_cases hji : j < i'
                · rw [if_pos hji] at hj ⊢
                  exact h2.2 j k2 v2 hj
                · rw [if_neg hji] at hj ⊢
                  exact h2.2 (j + 1) k2 v2 hj
          · rename_i hf
            cases h
            obtain ⟨c, g1, g2⟩ := run_find hT hy w hf h2
            cases c with
            | some p => exact g2.elim
            | none =>
              refine ⟨_, .tuple #[], ?_, hnil, hput ces cl es h2⟩
              simp only [Builtin.delete_, Sem.run_bind, run_underlying (hT.under ht) w, Result.andThen_ok, Sem.run_pure, List.getElem?_toArray, List.getElem?_cons_zero, List.getElem?_cons_succ, MapKept.run_getObj_map h1, hchk, g1, MapKept.run_setObj_map _ h1]
          · cases h
      · cases h
    · cases h
  · cases h

noncomputable def aLenM (T : TypeId → Option TI) (H : AH) (t : TypeId) (m : Value) : Option Value :=
  match T t, m with
  | some { desc := .map _ _, .. }, .map none => some (.int .i64 (0 : Nat))
  | some { desc := .map _ _, .. }, .map (some r) =>
    match lookB H.bs r with
    | some (.amap _ es) => some (.int .i64 es.length)
    | _ => none
  | _, _ => none

theorem aLenM_sound {P : Program} {T : TypeId → Option TI} (hT : TOk P T) {B : Nat} {ρ : BMap} {H : AH} {w : World} {t ty : TypeId} {m m' v : Value} (h : aLenM T H t m = some v) (hH : HRel B ρ H.bs w) (hm : VRel ρ m m') :
    (Builtin.len_ #[t] ty #[m']).run P w = .ok v w ∧ VRel ρ v v := by
  unfold aLenM at h
  split at h
  · rename_i ht
    cases h
    cases hm
    exact ⟨by simp [Builtin.len_, run_underlying (hT.under ht), goInt], .int _ _⟩
  · rename_i r ht
    split at h
    · rename_i es hl
      cases h
      cases hm with
      | mptr hρ =>
        obtain ⟨x, hx, hr⟩ := hH.blk r _ hl
        rw [hρ] at hx; cases hx
        obtain ⟨ces, cl, h1, h2⟩ := brel_es hr
        have hlen : ces.size = es.length := by simpa using h2.1
        refine ⟨?_, .int _ _⟩
        have := MapKept.run_getObj_map (P := P) h1
        simp [Builtin.len_, run_underlying (hT.under ht), goInt, this, hlen]
    · cases h
  · cases h

end Go.Proofs.Ytjginpeoblilpaa
