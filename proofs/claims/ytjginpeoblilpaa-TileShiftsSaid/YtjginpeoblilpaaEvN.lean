/-
  What is proved: nothing of the program. This text holds: a region whose order is drawn comes to the same abstract state in every order.
-/
import Derived.Test.YtjginpeoblilpaaEvM
namespace Go.Proofs.Ytjginpeoblilpaa
open Go.RowKit
set_option linter.unusedSimpArgs false
set_option linter.unusedVariables false

noncomputable def ordB (M : List Nat) (i j : Nat) : Bool := if Nat.blt j i then (M.getD i 0).testBit j else (M.getD j 0).testBit i

noncomputable def meets (ops : Array Oper) (o q : Oper) : Bool :=
  match q.dst with
  | some t => natMem (looks ops o) t || (match o.dst with | some d => Nat.beq d t | none => false)
  | none => false

/-- The order binds all that meets at a temporary. -/
noncomputable def statOK (ops : Array Oper) : Bool :=
  ops.toList.zipIdx.all fun p => p.1.after.toList.all (fun e => !Region.binds .any e || Nat.blt e.on p.2) &&
    ops.toList.zipIdx.all fun q => Nat.beq p.2 q.2 || !meets ops p.1 q.1 || ordB (befs ops.toList) p.2 q.2

noncomputable def dynOK (M : List Nat) (rs : List DR) (n : Nat) : Bool :=
  rs.all (fun r => r.ts.all (fun t => Nat.blt t n)) &&
  rs.all (fun w => !Nat.beq w.kind 2 || rs.all (fun q => Nat.beq q.i w.i || Nat.beq q.kind 0 || Nat.beq q.kind 3 || ordB M w.i q.i)) &&
  rs.all (fun w => !Nat.beq w.kind 2 || rs.all (fun q => !Nat.beq q.kind 3 || (Nat.blt q.i w.i && ordB M w.i q.i) || rdSame q w.nb))

theorem statOK_spec {ops : Array Oper} (h : statOK ops = true) : (∀ i o, ops[i]? = some o → ∀ e ∈ o.after.toList, Region.binds .any e = true → e.on < i) ∧
    ∀ i j o q, ops[i]? = some o → ops[j]? = some q → i ≠ j → meets ops o q = true → ordB (befs ops.toList) i j = true := by
  have h0 := List.all_eq_true.1 h
  have mem : ∀ i o, ops[i]? = some o → (o, i) ∈ ops.toList.zipIdx := fun i o ho => by
    rw [List.mk_mem_zipIdx_iff_getElem?]; simpa using ho
  refine ⟨fun i o ho e he hb => ?_, fun i j o q ho hq hne hm => ?_⟩
  · have h1 := h0 _ (mem i o ho)
    simp only [Bool.and_eq_true] at h1
    have h2 := List.all_eq_true.1 h1.1 e he
    simpa [hb, Nat.blt_eq] using h2
  · have h1 := h0 _ (mem i o ho)
    simp only [Bool.and_eq_true] at h1
    have h2 := List.all_eq_true.1 h1.2 _ (mem j q hq)
    have hne' : Nat.beq i j = false := beq_ne hne
    simpa [hm, hne'] using h2

section
variable {P : Program} {T : TypeId → Option TI} {call : Value → List Value → AH → Option (Value × AH)} {ops : Array Oper} {tm : Tm} {bs0 : List (Nat × ABlk)} {n0 nE : Nat} {rs : List DR}
  {B : Nat} {ρ0 : BMap} {w0 : World} {a0 : Act}

structure Inv (T : TypeId → Option TI) (call : Value → List Value → AH → Option (Value × AH)) (ops : Array Oper) (tm : Tm) (bs0 : List (Nat × ABlk)) (n0 nE : Nat) (rs : List DR)
    (B : Nat) (ρ0 : BMap) (w0 : World) (a0 : Act) (D : Nat → Bool) (ρ : BMap) (a : Act) (w : World) : Prop where
  down : Down ops D
  sz : a.tmps.size = tm.n
  tmp : ∀ t u, a.tmps[t]? = some u → VRel ρ (tv tm D rs t) u
  df : a.defers = a0.defers
  ext : Ext ρ0 ρ
  out : ∀ i, (i < n0 ∨ nE ≤ i) → ρ i = ρ0 i
  below : Below B w0 w
  free : ∀ r ∈ rs, D r.i = false → Free ρ r.lo r.hi
  heap : ((∀ r ∈ rs, r.kind = 2 → D r.i = false) ∧ w0.heap.size ≤ w.heap.size ∧ Lies B ρ bs0 w ∧ Made B w0.heap.size ρ (news D rs) w) ∨
    (∃ q ∈ rs, q.kind = 2 ∧ D q.i = true ∧ (∀ r ∈ rs, r.kind = 2 → (D r.i = true ↔ r.i ≤ q.i)) ∧ (∀ r ∈ rs, r.kind = 1 → D r.i = true) ∧ HRel B ρ q.nb w)

noncomputable def add1 (D : Nat → Bool) (i : Nat) : Nat → Bool := fun j => if j = i then true else D j

theorem meets_look {o q : Oper} {t : Nat} (h : t ∈ looks ops o) (hq : q.dst = some t) : meets ops o q = true := by
  unfold meets
  rw [hq]
  have := (natMem_iff (looks ops o) t).2 h
  simp [this]

theorem meets_dst {o q : Oper} {t : Nat} (h : o.dst = some t) (hq : q.dst = some t) : meets ops o q = true := by
  unfold meets
  rw [hq, h]
  simp

theorem writes_dst {x : DR} {t : Nat} (h : writes x t = true) : x.o.dst = some t := by
  unfold writes at h
  split at h
  · rename_i d hd
    rw [hd, Nat.eq_of_beq_eq_true h]
  · cases h

/-- What stands before i is done; what stands behind it is not. -/
theorem ord_done {D : Nat → Bool} (hD : Down ops D) {i : Nat} {o : Oper} (ho : ops[i]? = some o) (hpre : ∀ e ∈ o.after.toList, Region.binds .any e = true → D e.on = true) (hi : D i = false)
    {j : Nat} {q : Oper} (hq : ops[j]? = some q) (_hne : j ≠ i) (hord : ordB (befs ops.toList) i j = true) : (j < i → D j = true) ∧ (i < j → D j = false) := by
  unfold ordB at hord
  split at hord
  · rename_i hlt
    have hlt' : j < i := by simpa [Nat.blt_eq] using hlt
    exact ⟨fun _ => bef_in hD i o ho hpre j hord, fun h => by omega⟩
  · rename_i hlt
    have hlt' : ¬ j < i := by simpa [Nat.blt_eq] using hlt
    refine ⟨fun h => absurd h hlt', fun _ => ?_⟩
    cases hDj : D j with
    | false => rfl
    | true =>
      have := bef_in hD j q hq (fun e he hb => hD j q hq hDj e he hb) i hord
      rw [hi] at this; cases this

theorem lrel_nil (ρ : BMap) : LRel ρ Tm.nil.list #[] := by
  rw [Tm.list_nil]
  exact ⟨rfl, fun j v v' hv => by simp at hv⟩

theorem draw_step (hT : TOk P T) (hC : CallOK P call) (hS : statOK ops = true) (hF : Facts T call ops tm bs0 n0 (befs ops.toList) rs) (hdyn : dynOK (befs ops.toList) rs tm.n = true) (hlen : rs.length = ops.size) (hE : nE = topHi rs n0)
    (h0 : HRel B ρ0 bs0 w0) {D : Nat → Bool} {ρ : BMap} {a : Act} {w : World} (hI : Inv T call ops tm bs0 n0 nE rs B ρ0 w0 a0 D ρ a w) {i : Nat} {o : Oper} (ho : ops[i]? = some o)
    (hpre : ∀ e ∈ o.after.toList, Region.binds .any e = true → D e.on = true) (hi : D i = false) (b : Frame) (k : List Item) (cs : List Frame) (rest : List Nat) :
    ∃ ρ' w' a', Steps P (lone (b.atR a (.inRegion ops (i :: rest) :: k)) cs w) (lone (b.atR a' (.inRegion ops rest :: k)) cs w') ∧ Inv T call ops tm bs0 n0 nE rs B ρ0 w0 a0 (add1 D i) ρ' a' w' := by
  obtain ⟨hst1, hst2⟩ := statOK_spec hS
  have hlt : i < ops.size := (Array.getElem?_eq_some_iff.1 ho).1
  obtain ⟨x, hx, hxi⟩ := facts_all hF i (by omega)
  subst hxi
  obtain ⟨post, pre, hrs, hfx, hfpre⟩ := facts_mem hF hx
  have hpp := hF
  rw [hrs] at hpp
  obtain ⟨hpost, hprei⟩ := facts_post hpp
  have hxo : x.o = o := by
    have := hfx.1; rw [ho] at this; cases this; rfl
  have hts := hfx.2.2.1
  have hopsOf : ∀ r ∈ rs, ops[r.i]? = some r.o := fun r hr => by
    obtain ⟨_, _, _, hfr, _⟩ := facts_mem hF hr; exact hfr.1
  simp only [dynOK, Bool.and_eq_true] at hdyn
  obtain ⟨⟨hd1, hd2⟩, hd3⟩ := hdyn
  have htlt : ∀ t ∈ x.ts, t < tm.n := fun t ht => by
    have := List.all_eq_true.1 (List.all_eq_true.1 hd1 x hx) t ht
    simpa [Nat.blt_eq] using this
  -- the temporaries that it looks at
  have hlook : ∀ t ∈ x.ts, tv tm D rs t = tv tm all1 pre t := by
    intro t ht
    have key : ∀ r ∈ rs, writes r t = true → r.i ≠ x.i → (r.i < x.i → D r.i = true) ∧ (x.i < r.i → D r.i = false) := fun r hr hw hne =>
      ord_done hI.down ho hpre hi (hopsOf r hr) hne (hst2 x.i r.i o r.o ho (hopsOf r hr) (fun e => hne e.symm) (meets_look (by rw [← hxo, ← hts]; exact ht) (writes_dst hw)))
    rw [hrs, tv_post tm post (x :: pre) (fun r hr hw => (key r (by rw [hrs]; exact List.mem_append_left _ hr) hw (by have := hpost r hr; omega)).2 (hpost r hr))]
    rw [tv_cons]
    rw [hi]
    simp only [Bool.false_and, Bool.false_eq_true, if_false]
    exact tv_congr tm pre fun r hr hw => (key r (by rw [hrs]; exact List.mem_append_right _ (List.mem_cons_of_mem _ hr)) hw (by have := hprei r hr; omega)).1 (hprei r hr)
  have hlookV : ∀ t ∈ x.ts, VRel ρ (tv tm all1 pre t) (a.tmps.getD t undef) := by
    intro t ht
    rw [← hlook t ht]
    have h1 : t < a.tmps.size := by rw [hI.sz]; exact htlt t ht
    have := hI.tmp t a.tmps[t] (Array.getElem?_eq_getElem h1)
    simpa [h1] using this
  have hER : ERel ρ (gOf tm pre x.ts) a.eval := by
    intro y v hy
    cases y with
    | tmp t =>
      simp only [gOf] at hy
      split at hy
      · rename_i hm
        cases hy
        have hmm := (natMem_iff _ _).1 hm
        rw [fin_get tm pre t (htlt t hmm)]
        exact hlookV t hmm
      · cases hy
    | const u => exact (ERel.of (ρ := ρ) (tm := Tm.nil) (ct := #[]) (lrel_nil ρ) (E := fun | .tmp _ => undef | .const v => v | .global g => .pointer (some ⟨g, 0, none⟩) | .func f => .func (.func f) #[] #[]) (fun t => by simp) (fun _ => rfl) (fun _ => rfl) (fun _ => rfl)) (.const u) v hy
    | func f => exact (ERel.of (ρ := ρ) (tm := Tm.nil) (ct := #[]) (lrel_nil ρ) (E := fun | .tmp _ => undef | .const v => v | .global g => .pointer (some ⟨g, 0, none⟩) | .func f => .func (.func f) #[] #[]) (fun t => by simp) (fun _ => rfl) (fun _ => rfl) (fun _ => rfl)) (.func f) v hy
    | global g => exact (ERel.of (ρ := ρ) (tm := Tm.nil) (ct := #[]) (lrel_nil ρ) (E := fun | .tmp _ => undef | .const v => v | .global g => .pointer (some ⟨g, 0, none⟩) | .func f => .func (.func f) #[] #[]) (fun t => by simp) (fun _ => rfl) (fun _ => rfl) (fun _ => rfl)) (.global g) v hy
  have hwant : wantedR ops tm pre x.o = Region.wanted o (yielded ops a.tmps) := by
    unfold wantedR Region.wanted
    rw [hxo]
    cases hg : o.guard with
    | none => rfl
    | some p =>
      obtain ⟨gj, want⟩ := p
      simp only
      have hgt : guardT ops o = (ops[gj]?).bind (·.dst) := by unfold guardT; rw [hg]
      unfold yielded
      cases hdst : (ops[gj]?).bind (·.dst) with
      | none => rw [hgt, hdst]; rfl
      | some t =>
        rw [hgt, hdst]
        have hmem : t ∈ x.ts := by rw [hts, hxo]; unfold looks; rw [hgt, hdst]; exact List.mem_cons_self
        have hv := hlookV t hmem
        have h1 : t < a.tmps.size := by rw [hI.sz]; exact htlt t hmem
        simp only [Option.bind_some, Array.getElem?_eq_getElem h1]
        have e1 : a.tmps.getD t undef = a.tmps[t] := by simp [h1]
        rw [e1] at hv
        generalize a.tmps[t] = cu at hv
        simp only [fin_get tm pre t (htlt t hmem)]
        generalize tv tm all1 pre t = cv at hv
        cases hv <;> rfl
  -- the temporaries behind it
  have htmp : ∀ (ρ' : BMap) (u : Value), Ext ρ ρ' → VRel ρ' x.v u → (a.put o.dst u).tmps.size = tm.n ∧ ∀ t u', (a.put o.dst u).tmps[t]? = some u' → VRel ρ' (tv tm (add1 D x.i) rs t) u' := by
    intro ρ' u he hu
    refine ⟨by cases o.dst <;> simp [Act.put, hI.sz], fun t u' hu' => ?_⟩
    have hcase : (o.dst = some t ∧ u' = u) ∨ (o.dst ≠ some t ∧ a.tmps[t]? = some u') := by
      cases hd : o.dst with
      | none => rw [hd] at hu'; exact .inr ⟨by simp, hu'⟩
      | some d =>
        rw [hd] at hu'
        simp only [Act.put, Array.getElem?_setIfInBounds] at hu'
        by_cases e : d = t
        · subst e
          simp only [if_true] at hu'
          split at hu'
          · cases hu'; exact .inl ⟨rfl, rfl⟩
          · cases hu'
        · simp only [e, if_false] at hu'
          exact .inr ⟨by simpa using e, hu'⟩
    rcases hcase with ⟨hd, rfl⟩ | ⟨hd, hu''⟩
    · have e : tv tm (add1 D x.i) rs t = x.v := by
        rw [hrs, tv_post tm post (x :: pre) (fun r hr hw => ?_)]
        · rw [tv_cons]
          have hw : writes x t = true := by unfold writes; rw [hxo, hd]; simp
          simp [add1, hw]
        · have hr' : r ∈ rs := by rw [hrs]; exact List.mem_append_left _ hr
          have hne : r.i ≠ x.i := by have := hpost r hr; omega
          have := (ord_done hI.down ho hpre hi (hopsOf r hr') hne (hst2 x.i r.i o r.o ho (hopsOf r hr') (fun e => hne e.symm) (meets_dst hd (writes_dst hw)))).2 (hpost r hr)
          simp [add1, hne, this]
      rw [e]; exact hu
    · have e : tv tm (add1 D x.i) rs t = tv tm D rs t := tv_congr tm rs fun r hr hw => by
        by_cases hri : r.i = x.i
        · have := facts_inj hF hr hx hri
          subst this
          exact absurd (by rw [← hxo]; exact writes_dst hw) hd
        · simp [add1, hri]
      rw [e]; exact (hI.tmp t u' hu'').ext he
  have hdown : Down ops (add1 D x.i) := by
    intro j q hq hj e he hb
    simp only [add1] at hj ⊢
    split at hj
    · rename_i ej
      subst ej
      rw [ho] at hq; cases hq
      have := hpre e he hb
      split
      · rfl
      · exact this
    · have := hI.down j q hq hj e he hb
      split
      · rfl
      · exact this
  have hdf : ∀ u, (a.put o.dst u).defers = a0.defers := fun u => by cases o.dst <;> exact hI.df
  obtain ⟨htop0, htop⟩ := facts_top hT hC hF
  rw [← hE] at htop0 htop
  rcases hfx.2.2.2.2 with ⟨hk, hhi, hv⟩ | ⟨hk, hw, hno, H', hev, hhi, hnb, hdec⟩ | ⟨hk, hw, hev⟩ | ⟨hk, hw, hrd, H3, hev3, hhi3⟩
  · -- it touches no memory
    have hheap : ((∀ r ∈ rs, r.kind = 2 → add1 D x.i r.i = false) ∧ w0.heap.size ≤ w.heap.size ∧ Lies B ρ bs0 w ∧ Made B w0.heap.size ρ (news (add1 D x.i) rs) w) ∨
        (∃ q ∈ rs, q.kind = 2 ∧ add1 D x.i q.i = true ∧ (∀ r ∈ rs, r.kind = 2 → (add1 D x.i r.i = true ↔ r.i ≤ q.i)) ∧ (∀ r ∈ rs, r.kind = 1 → add1 D x.i r.i = true) ∧ HRel B ρ q.nb w) := by
      have same : ∀ r ∈ rs, r.kind ≠ 0 → add1 D x.i r.i = D r.i := fun r hr hkr => by
        have : r.i ≠ x.i := fun e => hkr (by rw [facts_inj hF hr hx e]; exact hk)
        simp [add1, this]
      rcases hI.heap with ⟨g1, g2, g3, g4⟩ | ⟨q, hq, g1, g2, g3, g4, g5⟩
      · refine .inl ⟨fun r hr hkr => by rw [same r hr (by omega)]; exact g1 r hr hkr, g2, g3, ?_⟩
        have hsub : ∀ p ∈ news (add1 D x.i) rs, p ∈ news D rs := fun p hp => by
          obtain ⟨r, hr, h1, h2, h3⟩ := news_mem.1 hp
          exact news_mem.2 ⟨r, hr, h1, by rw [← same r hr (by omega)]; exact h2, h3⟩
        exact ⟨g4.lie.sub hsub, fun p hp => g4.rw_ p (hsub p hp), fun p hp => g4.high p (hsub p hp), fun p hp q hq => g4.inj p (hsub p hp) q (hsub q hq)⟩
      · exact .inr ⟨q, hq, g1, by rw [same q hq (by omega)]; exact g2, fun r hr hkr => by rw [same r hr (by omega)]; exact g3 r hr hkr, fun r hr hkr => by rw [same r hr (by omega)]; exact g4 r hr hkr, g5⟩
    have hfree : ∀ r ∈ rs, add1 D x.i r.i = false → Free ρ r.lo r.hi := fun r hr h => hI.free r hr (by
      simp only [add1] at h
      split at h
      · cases h
      · exact h)
    rcases hv with ⟨hw, hv⟩ | ⟨hw, hv⟩
    · rw [hxo] at hv
      obtain ⟨u, hu, hr⟩ := vOp_sound (P := P) hT hv hER w
      obtain ⟨t1, t2⟩ := htmp ρ u (Ext.refl ρ) hr
      exact ⟨ρ, w, a.put o.dst u, .one (step_val ho (by rw [← hwant]; exact hw) (vOp_notDefer hv) hu), hdown, t1, t2, hdf u, hI.ext, hI.out, hI.below, hfree, hheap⟩
    · obtain ⟨t1, t2⟩ := htmp ρ undef (Ext.refl ρ) (by rw [hv]; exact vrel_undef ρ)
      have hst : step P (lone (b.atR a (.inRegion ops (x.i :: rest) :: k)) cs w) = .next (lone (b.atR (a.put o.dst undef) (.inRegion ops rest :: k)) cs w) := by
        have := stepR_op_skip (P := P) (b := b) (a := a) (k := k) (cs := cs) (w := w) (ops := ops) (i := x.i) (rest := rest) (by
          rw [ho]
          simp only [Option.map_some, Option.getD_some]
          rw [← hwant]; exact hw)
        rw [ho] at this
        exact this
      exact ⟨ρ, w, a.put o.dst undef, .one hst, hdown, t1, t2, hdf undef, hI.ext, hI.out, hI.below, hfree, hheap⟩
  · -- it reads and makes memory
    have hA : (∀ r ∈ rs, r.kind = 2 → D r.i = false) ∧ w0.heap.size ≤ w.heap.size ∧ Lies B ρ bs0 w ∧ Made B w0.heap.size ρ (news D rs) w := by
      rcases hI.heap with g | ⟨q, hq, g1, g2, g3, g4, g5⟩
      · exact g
      · have := g4 x hx hk
        rw [hi] at this; cases this
    obtain ⟨g1, g2, g3, g4⟩ := hA
    rw [hxo] at hev
    obtain ⟨hm, hs⟩ := evOp_sound hT hC hev
    have hlies : Lies B ρ (news (fun j => ((befs ops.toList).getD x.i 0).testBit j) pre ++ bs0) w := by
      intro p hp
      rcases List.mem_append.1 hp with hp | hp
      · obtain ⟨r, hr, h1, h2, h3⟩ := news_mem.1 hp
        have hr' : r ∈ rs := by rw [hrs]; exact List.mem_append_right _ (List.mem_cons_of_mem _ hr)
        exact g4.lie p (news_mem.2 ⟨r, hr', h1, bef_in hI.down x.i o ho hpre r.i h2, h3⟩)
      · exact g3 p hp
    have hgw : Globs B w := h0.glob.of (Nat.le_refl _) fun k hk => hI.below.block k hk
    have hro := hrel_ro hlies hgw (Nat.le_trans h0.hB g2)
    have hfr : Free ρ x.lo H'.next := by rw [← hhi]; exact hI.free x hx hi
    obtain ⟨ρ', w', u, hst, hu, hp⟩ := hs w.heap.size ρ w b a k cs ops x.i rest ho (by rw [← hwant]; exact hw) hER hro hfr
    obtain ⟨t1, t2⟩ := htmp ρ' u hp.ext hu
    have hbel := hp.below
    have hext0 : Ext ρ0 ρ' := hI.ext.trans hp.ext
    have hBw : B ≤ w.heap.size := Nat.le_trans h0.hB g2
    have hout : ∀ q, (q < x.lo ∨ x.hi ≤ q) → ρ' q = ρ q := fun q hq => hp.out q (by rw [← hhi]; exact hq)
    have hxr := htop x hx
    refine ⟨ρ', w', a.put o.dst u, hst, hdown, t1, t2, hdf u, hext0, fun q hq => (hout q (by omega)).trans (hI.out q hq), hI.below.trans (hbel.mono hBw), ?_, .inl ⟨?_, Nat.le_trans g2 hbel.size, g3.later hp.ext hbel, ?_⟩⟩
    · intro r hr hDr
      simp only [add1] at hDr
      split at hDr
      · cases hDr
      · rename_i hne
        have hfree := hI.free r hr hDr
        intro q h1 h2
        rw [hout q ?_]
        · exact hfree q h1 h2
        · rcases Nat.lt_or_ge r.i x.i with hc | hc
          · have := facts_apart hT hC hF hr hx hc; omega
          · have := facts_apart hT hC hF hx hr (by omega); omega
    · intro r hr hkr
      have hne : r.i ≠ x.i := fun e => by
        rw [facts_inj hF hr hx e] at hkr; omega
      simp [add1, hne, g1 r hr hkr]
    · -- what has been made
      have hold := g4.later hp.ext hbel
      obtain ⟨rr, hrr⟩ := newOnes_pre x.lo H'.bs
      obtain ⟨d1, _, d3⟩ := decr_spec x.nb hdec
      have hnew : ∀ p ∈ x.nb, ∃ z, ρ' p.1 = some z ∧ BRel ρ' w.heap.size w' z p.2 := fun p hpm => by
        have := d3 rr p hpm
        rw [hnb, ← hrr] at this
        exact hp.rel.blk _ _ this
      have hsplit : ∀ p, p ∈ news (add1 D x.i) rs → p ∈ x.nb ∨ p ∈ news D rs := fun p hpm => by
        obtain ⟨r, hr, h1, h2, h3⟩ := news_mem.1 hpm
        by_cases e : r.i = x.i
        · rw [facts_inj hF hr hx e] at h3; exact .inl h3
        · exact .inr (news_mem.2 ⟨r, hr, h1, by simpa [add1, e] using h2, h3⟩)
      have hhigh : ∀ p ∈ x.nb, ∀ z, ρ' p.1 = some z → w.heap.size ≤ z.1 := fun p hpm z hz => by
        obtain ⟨z', hz', hr⟩ := hnew p hpm
        rw [hz] at hz'; cases hz'
        exact hr.rw_ge (d1 p hpm)
      have hlow : ∀ p ∈ news D rs, ∀ z, ρ' p.1 = some z → z.1 < w.heap.size := fun p hpm z hz => by
        obtain ⟨z', hz', hr⟩ := g4.lie p hpm
        rw [hp.ext _ _ hz'] at hz; cases hz
        exact hr.lt
      refine ⟨fun p hpm => ?_, fun p hpm => ?_, fun p hpm z hz => ?_, fun p hpm q hqm y z hy hz heq => ?_⟩
      · rcases hsplit p hpm with h | h
        · obtain ⟨z, hz, hr⟩ := hnew p h
          refine ⟨z, hz, ?_⟩
          have hge := hr.rw_ge (d1 p h)
          revert hr
          cases p.2 with
          | cellsT ro cs ty =>
            rintro ⟨c1, c2, c3, c4, c5, c6, c7⟩
            cases ro with
            | false => exact ⟨c1, c2, c3, c4, c5, ⟨Nat.le_trans hBw hge, c6.2⟩, c7⟩
            | true =>
              have : z.1 < w.heap.size := c6
              omega
          | iter s pos => exact fun c => ⟨c.1, Nat.le_trans hBw hge, c.2.2⟩
          | loop => exact fun c => ⟨Nat.le_trans hBw hge, c.2⟩
          | defd => exact fun c => ⟨c.1, Nat.le_trans hBw hge⟩
          | ints g =>
            intro c
            have : z.1 < w.heap.size := c.1
            omega
          | amap ro es =>
            rintro ⟨c1, c2, c3, c4, c5, c6⟩
            cases ro with
            | false => exact ⟨c1, c2, c3, c4, c5, Nat.le_trans hBw hge⟩
            | true =>
              have : z.1 < w.heap.size := c6
              omega
          | tcells ex cs ty => exact fun c => ⟨c.1, Nat.le_trans hBw hge, c.2.2⟩
          | fro cs =>
            rintro ⟨c1, c2, c3, c4, c5, c6, c7⟩
            exact ⟨c1, c2, c3, c4, c5, ⟨Nat.le_trans hBw hge, c6.2⟩, c7⟩
        · exact hold.lie p h
      · rcases hsplit p hpm with h | h
        · exact d1 p h
        · exact hold.rw_ p h
      · rcases hsplit p hpm with h | h
        · exact Nat.le_trans g2 (hhigh p h z hz)
        · exact hold.high p h z hz
      · rcases hsplit p hpm with h | h
        · rcases hsplit q hqm with h' | h'
          · have e1 := d3 rr p h
            have e2 := d3 rr q h'
            rw [hnb, ← hrr] at e1 e2
            rcases hp.rel.inj _ _ _ _ y z e1 e2 (d1 p h) (d1 q h') hy hz heq with g | g
            · exact g
            · have := decr_nofro x.nb hdec p h
              rw [this] at g; exact absurd g.1 (by simp)
          · have := hhigh p h y hy
            have := hlow q h' z hz
            omega
        · rcases hsplit q hqm with h' | h'
          · have := hhigh q h' z hz
            have := hlow p h y hy
            omega
          · exact hold.inj p h q h' y z hy hz heq
  · -- it writes
    have hord : ∀ r ∈ rs, r.kind ≠ 0 → r.kind ≠ 3 → r.i ≠ x.i → (r.i < x.i → D r.i = true) ∧ (x.i < r.i → D r.i = false) := fun r hr hkr hkr3 hne => by
      have h1 := List.all_eq_true.1 hd2 x hx
      rw [hk] at h1
      simp only [Nat.beq_refl, Bool.not_true, Bool.false_or] at h1
      have h2 := List.all_eq_true.1 h1 r hr
      rw [beq_ne hne, beq_ne hkr, beq_ne hkr3] at h2
      simp only [Bool.false_or] at h2
      exact ord_done hI.down ho hpre hi (hopsOf r hr) hne h2
    rw [hxo] at hev
    obtain ⟨hm, hs⟩ := evOp_sound hT hC hev
    have hfr : Free ρ x.lo x.hi := hI.free x hx hi
    have hxr := htop x hx
    -- the memory that it finds
    have hfind : HRel B ρ (wheap bs0 pre) w ∧ (∀ r ∈ rs, r.kind = 1 → D r.i = true) := by
      unfold wheap
      cases hq : pre.find? (fun r => Nat.beq r.kind 2) with
      | none =>
        have hnone : ∀ r ∈ pre, r.kind ≠ 2 := fun r hr e => by
          have := List.find?_eq_none.1 hq r hr
          rw [e] at this; exact this rfl
        rcases hI.heap with ⟨g1, g2, g3, g4⟩ | ⟨q, hqm, g1, g2, g3, g4, g5⟩
        · have hR : ∀ r ∈ rs, r.kind = 1 → D r.i = true := fun r hr hkr => by
            have hne : r.i ≠ x.i := fun e => by rw [facts_inj hF hr hx e] at hkr; omega
            have hlt' : r.i < x.i := by
              rcases Nat.lt_or_ge r.i x.i with h | h
              · exact h
              · -- a reading operation behind a writing one there is not
                obtain ⟨post', pre', hrs', hfr', _⟩ := facts_mem hF hr
                rcases hfr'.2.2.2.2 with ⟨e, _⟩ | ⟨_, _, hno, _⟩ | ⟨e, _⟩ | ⟨e, _⟩
                · omega
                · have hxp : x ∈ pre' := by
                    have hpp' := hF
                    rw [hrs'] at hpp' hx
                    obtain ⟨p1, p2⟩ := facts_post hpp'
                    rcases List.mem_append.1 hx with hx' | hx'
                    · have := p1 x hx'; omega
                    · rcases List.mem_cons.1 hx' with e | hx'
                      · rw [e] at hne; exact absurd rfl hne
                      · exact hx'
                  exact absurd hk (hno x hxp)
                · omega
                · omega
            exact (hord r hr (by omega) (by omega) hne).1 hlt'
          refine ⟨?_, hR⟩
          have hmade : Made B w0.heap.size ρ (news all1 pre) w := by
            have hsub : ∀ p ∈ news all1 pre, p ∈ news D rs := fun p hp => by
              obtain ⟨r, hr, h1, _, h3⟩ := news_mem.1 hp
              have hr' : r ∈ rs := by rw [hrs]; exact List.mem_append_right _ (List.mem_cons_of_mem _ hr)
              exact news_mem.2 ⟨r, hr', h1, hR r hr' h1, h3⟩
            exact ⟨g4.lie.sub hsub, fun p hp => g4.rw_ p (hsub p hp), fun p hp => g4.high p (hsub p hp), fun p hp q hq => g4.inj p (hsub p hp) q (hsub q hq)⟩
          exact hmade.join h0 rfl hI.ext g3 (Nat.le_trans h0.hB g2) (h0.glob.of (Nat.le_refl _) fun k hk => hI.below.block k hk)
        · have hqx : q.i < x.i := by
            have h1 := g3 x hx hk
            rw [hi] at h1
            have : ¬ x.i ≤ q.i := fun h => by have := h1.2 h; cases this
            omega
          have hqp : q ∈ pre := by
            have hqm' := hqm
            rw [hrs] at hqm'
            rcases List.mem_append.1 hqm' with h | h
            · have := hpost q h; omega
            · rcases List.mem_cons.1 h with e | h
              · rw [e] at hqx; omega
              · exact h
          exact absurd g1 (hnone q hqp)
      | some q =>
        have hqk : q.kind = 2 := Nat.eq_of_beq_eq_true (List.find?_some (p := fun r : DR => Nat.beq r.kind 2) hq)
        have hqp : q ∈ pre := List.mem_of_find?_eq_some hq
        have hqr : q ∈ rs := by rw [hrs]; exact List.mem_append_right _ (List.mem_cons_of_mem _ hqp)
        have hqx := hprei q hqp
        have hqD : D q.i = true := (hord q hqr (by omega) (by omega) (by omega)).1 hqx
        rcases hI.heap with ⟨g1, _⟩ | ⟨q', hqm', g1, g2, g3, g4, g5⟩
        · have := g1 q hqr hqk
          rw [hqD] at this; cases this
        · have hqx' : q'.i < x.i := by
            have h1 := g3 x hx hk
            rw [hi] at h1
            have : ¬ x.i ≤ q'.i := fun h => by have := h1.2 h; cases this
            omega
          have hqp' : q' ∈ pre := by
            rw [hrs] at hqm'
            rcases List.mem_append.1 hqm' with h | h
            · have := hpost q' h; omega
            · rcases List.mem_cons.1 h with e | h
              · rw [e] at hqx'; omega
              · exact h
          have hle : q.i ≤ q'.i := (g3 q hqr hqk).1 hqD
          -- the first that is found is the last that was carried out
          have hge : q'.i ≤ q.i := by
            obtain ⟨_, as, bs, hpre2, hno⟩ := List.find?_eq_some_iff_append.1 hq
            rw [hpre2] at hqp' hfpre
            obtain ⟨p1, p2⟩ := facts_post hfpre
            rcases List.mem_append.1 hqp' with h | h
            · have h1 := hno q' h
              rw [g1] at h1; cases h1
            · rcases List.mem_cons.1 h with e | h
              · rw [e]; exact Nat.le_refl _
              · exact Nat.le_of_lt (p2 q' h)
          have e : q = q' := facts_inj hF hqr (by rw [hrs]; exact List.mem_append_right _ (List.mem_cons_of_mem _ (by assumption))) (by omega)
          rw [e]
          exact ⟨g5, g4⟩
    obtain ⟨hfind, hR⟩ := hfind
    obtain ⟨ρ', w', u, hst, hu, hp⟩ := hs B ρ w b a k cs ops x.i rest ho (by rw [← hwant]; exact hw) hER hfind hfr
    obtain ⟨t1, t2⟩ := htmp ρ' u hp.ext hu
    have hout : ∀ q, (q < x.lo ∨ x.hi ≤ q) → ρ' q = ρ q := fun q hq => hp.out q hq
    refine ⟨ρ', w', a.put o.dst u, hst, hdown, t1, t2, hdf u, hI.ext.trans hp.ext, fun q hq => (hout q (by omega)).trans (hI.out q hq), hI.below.trans hp.below, ?_, .inr ⟨x, hx, hk, by simp [add1], ?_, ?_, hp.rel⟩⟩
    · intro r hr hDr
      simp only [add1] at hDr
      split at hDr
      · cases hDr
      · rename_i hne
        have hfree := hI.free r hr hDr
        intro q h1 h2
        rw [hout q ?_]
        · exact hfree q h1 h2
        · rcases Nat.lt_or_ge r.i x.i with hc | hc
          · have := facts_apart hT hC hF hr hx hc; omega
          · have := facts_apart hT hC hF hx hr (by omega); omega
    · intro r hr hkr
      by_cases e : r.i = x.i
      · simp [add1, e]
      · obtain ⟨o1, o2⟩ := hord r hr (by omega) (by omega) e
        simp only [add1, e, if_false]
        constructor
        · intro h
          rcases Nat.lt_or_ge x.i r.i with hc | hc
          · rw [o2 hc] at h; cases h
          · exact hc
        · intro h
          exact o1 (by omega)
    · intro r hr hkr
      have := hR r hr hkr
      simp only [add1]
      split
      · rfl
      · exact this
  · -- it only reads
    have hxr := htop x hx
    have hw' : Region.wanted o (yielded ops a.tmps) = true := by rw [← hwant]; exact hw
    have same : ∀ r ∈ rs, r.kind ≠ 3 → add1 D x.i r.i = D r.i := fun r hr hkr => by
      have : r.i ≠ x.i := fun e => hkr (by rw [facts_inj hF hr hx e]; exact hk)
      simp [add1, this]
    have hfree : ∀ ρ' : BMap, (∀ q, (q < x.lo ∨ x.hi ≤ q) → ρ' q = ρ q) → ∀ r ∈ rs, add1 D x.i r.i = false → Free ρ' r.lo r.hi := by
      intro ρ' hout r hr hDr
      simp only [add1] at hDr
      split at hDr
      · cases hDr
      · rename_i hne
        have hfree := hI.free r hr hDr
        intro q h1 h2
        rw [hout q ?_]
        · exact hfree q h1 h2
        · rcases Nat.lt_or_ge r.i x.i with hc | hc
          · have := facts_apart hT hC hF hr hx hc; omega
          · have := facts_apart hT hC hF hx hr (by omega); omega
    have hBw : B ≤ w.heap.size := Nat.le_trans h0.hB hI.below.size
    rcases hI.heap with ⟨g1, g2, g3, g4⟩ | ⟨q, hq, g1, g2, g3, g4, g5⟩
    · have hgw : Globs B w := h0.glob.of (Nat.le_refl _) fun k hk => hI.below.block k hk
      have hro := hrel_ro g3 hgw (Nat.le_trans h0.hB g2)
      rw [hxo] at hev3
      obtain ⟨hm, hs⟩ := evOp_sound hT hC hev3
      have hfr : Free ρ x.lo H3.next := by rw [← hhi3]; exact hI.free x hx hi
      obtain ⟨ρ', w', u, hst, hu, hp⟩ := hs w.heap.size ρ w b a k cs ops x.i rest ho hw' hER hro hfr
      obtain ⟨t1, t2⟩ := htmp ρ' u hp.ext hu
      have hbel := hp.below
      have hout : ∀ q, (q < x.lo ∨ x.hi ≤ q) → ρ' q = ρ q := fun q hq => hp.out q (by rw [← hhi3]; exact hq)
      refine ⟨ρ', w', a.put o.dst u, hst, hdown, t1, t2, hdf u, hI.ext.trans hp.ext, fun q hq => (hout q (by omega)).trans (hI.out q hq), hI.below.trans (hbel.mono hBw), hfree ρ' hout, .inl ⟨fun r hr hkr => by rw [same r hr (by omega)]; exact g1 r hr hkr, Nat.le_trans g2 hbel.size, g3.later hp.ext hbel, ?_⟩⟩
      have hold := g4.later hp.ext hbel
      have hsub : ∀ p ∈ news (add1 D x.i) rs, p ∈ news D rs := fun p hp => by
        obtain ⟨r, hr, h1, h2, h3⟩ := news_mem.1 hp
        exact news_mem.2 ⟨r, hr, h1, by rw [← same r hr (by omega)]; exact h2, h3⟩
      exact ⟨hold.lie.sub hsub, fun p hp => hold.rw_ p (hsub p hp), fun p hp => hold.high p (hsub p hp), fun p hp q hq => hold.inj p (hsub p hp) q (hsub q hq)⟩
    · have h1 := List.all_eq_true.1 hd3 q hq
      rw [g1] at h1
      simp only [Nat.beq_refl, Bool.not_true, Bool.false_or] at h1
      have h2 := List.all_eq_true.1 h1 x hx
      rw [hk] at h2
      simp only [Nat.beq_refl, Bool.not_true, Bool.false_or, Bool.or_eq_true, Bool.and_eq_true] at h2
      rcases h2 with ⟨h2, h3⟩ | h2
      · exfalso
        unfold ordB at h3
        rw [if_pos h2] at h3
        have := bef_in hI.down q.i q.o (hopsOf q hq) (fun e he hb => hI.down q.i q.o (hopsOf q hq) g2 e he hb) x.i h3
        rw [hi] at this; cases this
      · unfold rdSame at h2
        simp only [Bool.and_eq_true] at h2
        obtain ⟨hdk, h2⟩ := h2
        split at h2
        · rename_i v H' hev
          simp only [Bool.and_eq_true, Nat.ble_eq] at h2
          have hv := eqR_sound 5 _ _ h2.1
          subst hv
          rw [hrd, hxo] at hev
          obtain ⟨hm, hs⟩ := evOp_sound hT hC hev
          have hro := hrel_ro (g5.lies hdk) g5.glob g5.hB
          have hfr : Free ρ x.lo H'.next := fun q a b => hI.free x hx hi q a (Nat.lt_of_lt_of_le b h2.2)
          obtain ⟨ρ', w', u, hst, hu, hp⟩ := hs w.heap.size ρ w b a k cs ops x.i rest ho hw' hER hro hfr
          obtain ⟨t1, t2⟩ := htmp ρ' u hp.ext hu
          have hbel := hp.below
          have hout : ∀ q, (q < x.lo ∨ x.hi ≤ q) → ρ' q = ρ q := fun q hq => hp.out q (by
            have h5 := h2.2
            show q < x.lo ∨ H'.next ≤ q
            omega)
          exact ⟨ρ', w', a.put o.dst u, hst, hdown, t1, t2, hdf u, hI.ext.trans hp.ext, fun q hq => (hout q (by omega)).trans (hI.out q hq), hI.below.trans (hbel.mono hBw), hfree ρ' hout,
            .inr ⟨q, hq, g1, by rw [same q hq (by omega)]; exact g2, fun r hr hkr => by rw [same r hr (by omega)]; exact g3 r hr hkr, fun r hr hkr => by rw [same r hr (by omega)]; exact g4 r hr hkr, g5.later hp.ext hbel⟩⟩
        · cases h2
end

end Go.Proofs.Ytjginpeoblilpaa
