/-
  What is proved: nothing of the program. This text holds small facts for a region whose order is drawn: on temporaries, on ranges of numbers, on the memory that operations of the region have made.
-/
import Derived.Test.YtjginpeoblilpaaEvL
namespace Go.Proofs.Ytjginpeoblilpaa
open Go.RowKit
set_option linter.unusedSimpArgs false
set_option linter.unusedVariables false

noncomputable def writes (x : DR) (t : Nat) : Bool := match x.o.dst with | some d => Nat.beq d t | none => false

theorem tv_cons (tm : Tm) (D : Nat → Bool) (r : DR) (rs : List DR) (t : Nat) : tv tm D (r :: rs) t = if D r.i && writes r t then r.v else tv tm D rs t := rfl

theorem tv_congr (tm : Tm) {D D' : Nat → Bool} {t : Nat} : ∀ (rs : List DR), (∀ r ∈ rs, writes r t = true → D r.i = D' r.i) → tv tm D rs t = tv tm D' rs t
  | [], _ => rfl
  | r :: rs, h => by
    rw [tv_cons, tv_cons, tv_congr tm rs (fun q hq => h q (List.mem_cons_of_mem _ hq))]
    cases hw : writes r t with
    | false => simp
    | true => rw [h r List.mem_cons_self hw]

theorem tv_post (tm : Tm) {D : Nat → Bool} {t : Nat} : ∀ (post rs : List DR), (∀ r ∈ post, writes r t = true → D r.i = false) → tv tm D (post ++ rs) t = tv tm D rs t
  | [], _, _ => rfl
  | r :: post, rs, h => by
    rw [List.cons_append, tv_cons, tv_post tm post rs (fun q hq => h q (List.mem_cons_of_mem _ hq))]
    cases hw : writes r t with
    | false => simp
    | true => rw [h r List.mem_cons_self hw]; simp

theorem finT_spec (tm : Tm) : ∀ rs : List DR, (finT tm rs).n = tm.n ∧ ∀ t, t < tm.n → (finT tm rs).list[t]? = some (tv tm all1 rs t)
  | [] => ⟨rfl, fun t ht => by
    rw [finT, tv, Tm.get_eq, Tm.list_get, if_pos ht]; rfl⟩
  | r :: rs => by
    obtain ⟨h1, h2⟩ := finT_spec tm rs
    unfold finT
    cases hd : r.o.dst with
    | none =>
      refine ⟨h1, fun t ht => ?_⟩
      rw [h2 t ht, tv_cons]
      have : writes r t = false := by unfold writes; rw [hd]
      simp [this]
    | some d =>
      refine ⟨?_, fun t ht => ?_⟩
      · simp only [Tm.set_if]
        split
        · exact h1
        · exact h1
      · simp only
        rw [Tm.list_set, List.getElem?_set, tv_cons]
        by_cases e : d = t
        · subst e
          have : writes r d = true := by unfold writes; rw [hd]; simp
          rw [if_pos rfl, if_pos (by rw [Tm.list_length, h1]; exact ht)]
          simp [this, all1]
        · have : writes r t = false := by
            unfold writes; rw [hd]; exact beq_ne e
          rw [if_neg e, h2 t ht]
          simp [this]

theorem fin_get (tm : Tm) (rs : List DR) (t : Nat) (ht : t < tm.n) : (finT tm rs).get t = tv tm all1 rs t := by
  rw [Tm.get_eq, (finT_spec tm rs).2 t ht]; rfl

theorem natMem_iff : ∀ (l : List Nat) (n : Nat), natMem l n = true ↔ n ∈ l
  | [], n => by simp [natMem]
  | a :: r, n => by
    simp only [natMem]
    split
    · rename_i h
      have : a = n := Nat.eq_of_beq_eq_true h
      subst this
      simp
    · rename_i h
      rw [natMem_iff r n]
      have : ¬ a = n := fun e => h (by simp [e])
      simp [this, eq_comm]

section
variable {T : TypeId → Option TI} {call : Value → List Value → AH → Option (Value × AH)} {ops : Array Oper} {tm : Tm} {bs0 : List (Nat × ABlk)} {n0 : Nat} {M : List Nat}

theorem facts_mem : ∀ {rs : List DR} {x : DR}, Facts T call ops tm bs0 n0 M rs → x ∈ rs → ∃ post pre, rs = post ++ x :: pre ∧ Fact T call ops tm bs0 n0 M pre x ∧ Facts T call ops tm bs0 n0 M pre
  | [], x, _, h => by cases h
  | y :: rs, x, hf, h => by
    rcases List.mem_cons.1 h with rfl | h
    · exact ⟨[], rs, rfl, hf.1, hf.2⟩
    · obtain ⟨post, pre, e, h1, h2⟩ := facts_mem hf.2 h
      exact ⟨y :: post, pre, by rw [e]; rfl, h1, h2⟩

/-- The numbers of the records. -/
theorem facts_idx : ∀ {rs : List DR}, Facts T call ops tm bs0 n0 M rs → ∀ (x : DR), x ∈ rs → x.i < rs.length
  | [], _, x, h => by cases h
  | y :: rs, hf, x, h => by
    rcases List.mem_cons.1 h with rfl | h
    · have := hf.1.2.1; simp; omega
    · have := facts_idx hf.2 x h; simp; omega

theorem facts_post {post pre : List DR} {x : DR} (hf : Facts T call ops tm bs0 n0 M (post ++ x :: pre)) : (∀ y ∈ post, x.i < y.i) ∧ (∀ y ∈ pre, y.i < x.i) := by
  induction post with
  | nil =>
    refine ⟨fun y hy => (by cases hy), fun y hy => ?_⟩
    have h1 := facts_idx hf.2 y hy
    have h2 := hf.1.2.1
    omega
  | cons z post ih =>
    obtain ⟨h1, h2⟩ := ih hf.2
    refine ⟨fun y hy => ?_, h2⟩
    rcases List.mem_cons.1 hy with rfl | hy
    · have e := hf.1.2.1
      have := facts_idx hf.2 x (by simp)
      omega
    · exact h1 y hy

theorem facts_inj {rs : List DR} (hf : Facts T call ops tm bs0 n0 M rs) {x y : DR} (hx : x ∈ rs) (hy : y ∈ rs) (h : x.i = y.i) : x = y := by
  obtain ⟨post, pre, e, _, _⟩ := facts_mem hf hx
  rw [e] at hf hy
  obtain ⟨h1, h2⟩ := facts_post hf
  rcases List.mem_append.1 hy with hy | hy
  · have := h1 y hy; omega
  · rcases List.mem_cons.1 hy with rfl | hy
    · rfl
    · have := h2 y hy; omega

theorem facts_all {rs : List DR} (hf : Facts T call ops tm bs0 n0 M rs) : ∀ j, j < rs.length → ∃ x ∈ rs, x.i = j := by
  induction rs with
  | nil => intro j hj; simp at hj
  | cons y rs ih =>
    intro j hj
    have e := hf.1.2.1
    by_cases h : j = rs.length
    · exact ⟨y, List.mem_cons_self, by omega⟩
    · obtain ⟨x, hx, hxj⟩ := ih hf.2 j (by simp at hj; omega)
      exact ⟨x, List.mem_cons_of_mem _ hx, hxj⟩

/-- An operation's abstract run does not step back. -/
theorem evOp_mono {P : Program} (hT : TOk P T) (hC : CallOK P call) {o : Oper} {g : Operand → Option Value} {H H' : AH} {v : Value} (h : evOp T call o g H = some (v, H')) : H.next ≤ H'.next := (evOp_sound hT hC h).1

theorem fact_le {P : Program} (hT : TOk P T) (hC : CallOK P call) {rs : List DR} {x : DR} (h : Fact T call ops tm bs0 n0 M rs x) : x.lo ≤ x.hi := by
  rcases h.2.2.2.2 with ⟨_, h, _⟩ | ⟨_, _, _, H', h, e, _⟩ | ⟨_, _, h⟩ | ⟨_, _, _, H', h, e⟩
  · omega
  · rw [e]; exact evOp_mono hT hC h
  · exact evOp_mono hT hC h
  · rw [e]; exact evOp_mono hT hC h

theorem facts_top {P : Program} (hT : TOk P T) (hC : CallOK P call) : ∀ {rs : List DR}, Facts T call ops tm bs0 n0 M rs → n0 ≤ topHi rs n0 ∧ ∀ x ∈ rs, n0 ≤ x.lo ∧ x.lo ≤ x.hi ∧ x.hi ≤ topHi rs n0
  | [], _ => ⟨Nat.le_refl _, fun x h => (by cases h)⟩
  | y :: rs, hf => by
    obtain ⟨h1, h2⟩ := facts_top hT hC hf.2
    have e := hf.1.2.2.2.1
    have hle := fact_le hT hC hf.1
    refine ⟨by show n0 ≤ y.hi; omega, fun x hx => ?_⟩
    rcases List.mem_cons.1 hx with rfl | hx
    · exact ⟨by omega, hle, Nat.le_refl _⟩
    · obtain ⟨a, b, c⟩ := h2 x hx
      exact ⟨a, b, by show x.hi ≤ y.hi; omega⟩

theorem facts_apart {P : Program} (hT : TOk P T) (hC : CallOK P call) {rs : List DR} (hf : Facts T call ops tm bs0 n0 M rs) {x y : DR} (hx : x ∈ rs) (hy : y ∈ rs) (h : x.i < y.i) : x.hi ≤ y.lo := by
  obtain ⟨post, pre, e, h1, h2⟩ := facts_mem hf hy
  rw [e] at hf hx
  obtain ⟨g1, g2⟩ := facts_post hf
  have hxp : x ∈ pre := by
    rcases List.mem_append.1 hx with hx | hx
    · have := g1 x hx; omega
    · rcases List.mem_cons.1 hx with rfl | hx
      · omega
      · exact hx
  have := ((facts_top hT hC h2).2 x hxp).2.2
  have e2 := h1.2.2.2.1
  omega
end

/-! ### Memory -/
theorem lookB_mem : ∀ {bs : List (Nat × ABlk)} {i : Nat} {k : ABlk}, lookB bs i = some k → (i, k) ∈ bs
  | [], i, k, h => by cases h
  | (j, q) :: r, i, k, h => by
    simp only [lookB] at h
    split at h
    · rename_i hb
      have : i = j := Nat.eq_of_beq_eq_true hb
      subst this
      cases h
      exact List.mem_cons_self
    · exact List.mem_cons_of_mem _ (lookB_mem h)

theorem roB_mem : ∀ {bs : List (Nat × ABlk)} {p : Nat × ABlk}, p ∈ roB bs → ∃ k, (p.1, k) ∈ bs ∧ roK k = some p.2
  | [], p, h => by cases h
  | (j, k) :: r, p, h => by
    simp only [roB] at h
    split at h
    · rename_i k' hk
      rcases List.mem_cons.1 h with rfl | h
      · exact ⟨k, List.mem_cons_self, hk⟩
      · obtain ⟨k2, h1, h2⟩ := roB_mem h
        exact ⟨k2, List.mem_cons_of_mem _ h1, h2⟩
    · obtain ⟨k2, h1, h2⟩ := roB_mem h
      exact ⟨k2, List.mem_cons_of_mem _ h1, h2⟩

/-- Every entry lies in the world. -/
noncomputable def Lies (B : Nat) (ρ : BMap) (bs : List (Nat × ABlk)) (w : World) : Prop := ∀ p ∈ bs, ∃ x, ρ p.1 = some x ∧ BRel ρ B w x p.2

theorem hrel_ro {B : Nat} {ρ : BMap} {bs : List (Nat × ABlk)} {w : World} (h : Lies B ρ bs w) {B0 : Nat} (hg : Globs B0 w) (hB0 : B0 ≤ w.heap.size) : HRel w.heap.size ρ (roB bs) w := by
  have one : ∀ i k, lookB (roB bs) i = some k → k.rw = false ∧ ∃ x, ρ i = some x ∧ BRel ρ w.heap.size w x k := by
    intro i k hk
    obtain ⟨k0, hm, hk0⟩ := roB_mem (lookB_mem hk)
    obtain ⟨x, hx, hr⟩ := h _ hm
    have hlt := hr.lt
    cases k0 with
    | cellsT ro cs ty0 =>
      simp only [roK, Option.some.injEq] at hk0
      subst hk0
      obtain ⟨ccs, ty, fz, g1, g2, g3⟩ := hr
      exact ⟨rfl, x, hx, ccs, ty, fz, g1, g2, hlt, g3.2⟩
    | tcells ex cs ty0 =>
      simp only [roK, Option.some.injEq] at hk0
      subst hk0
      obtain ⟨ccs, ty, fz, g1, g2, g3⟩ := hr.unt
      exact ⟨rfl, x, hx, ccs, ty, fz, g1, g2, hlt, g3.2⟩
    | fro cs =>
      simp only [roK, Option.some.injEq] at hk0
      subst hk0
      obtain ⟨ccs, ty, fz, g1, g2, g3⟩ := hr.unfro
      exact ⟨rfl, x, hx, ccs, ty, fz, g1, g2, hlt, g3.2⟩
    | ints g =>
      simp only [roK, Option.some.injEq] at hk0
      subst hk0
      exact ⟨rfl, x, hx, hlt, hr.2⟩
    | amap ro es =>
      simp only [roK, Option.some.injEq] at hk0
      subst hk0
      obtain ⟨ces, cl, g1, g2, g3, _⟩ := hr
      exact ⟨rfl, x, hx, ces, cl, g1, g2, g3, hlt⟩
    | iter s pos => simp [roK] at hk0
    | loop st pending fn tmps params assign body => simp [roK] at hk0
    | defd => simp [roK] at hk0
  refine ⟨Nat.le_refl _, fun i k hk => (one i k hk).2, fun i j ki kj xi xj hi hj hki => ?_, hg.of hB0 fun _ _ => rfl⟩
  rw [(one i ki hi).1] at hki
  cases hki

theorem Lies.sub {B : Nat} {ρ : BMap} {bs bs' : List (Nat × ABlk)} {w : World} (h : Lies B ρ bs w) (hs : ∀ p ∈ bs', p ∈ bs) : Lies B ρ bs' w := fun p hp => h p (hs p hp)

theorem Lies.later {B : Nat} {ρ ρ' : BMap} {bs : List (Nat × ABlk)} {w w' : World} (h : Lies B ρ bs w) (he : Ext ρ ρ') (hb : Below w.heap.size w w') : Lies B ρ' bs w' := fun p hp => by
  obtain ⟨x, hx, hr⟩ := h p hp
  exact ⟨x, he _ _ hx, (hr.ext he).same (hb.block _ hr.lt)⟩

theorem newOnes_pre (lo : Nat) : ∀ (bs : List (Nat × ABlk)), ∃ r, bs = newOnes lo bs ++ r
  | [] => ⟨[], rfl⟩
  | (i, k) :: r => by
    simp only [newOnes]
    split
    · obtain ⟨q, e⟩ := newOnes_pre lo r
      exact ⟨q, by rw [List.cons_append, ← e]⟩
    · exact ⟨(i, k) :: r, rfl⟩

theorem newOnes_ge (lo : Nat) : ∀ (bs : List (Nat × ABlk)) (p : Nat × ABlk), p ∈ newOnes lo bs → lo ≤ p.1
  | [], p, h => by cases h
  | (i, k) :: r, p, h => by
    simp only [newOnes] at h
    split at h
    · rename_i hle
      rcases List.mem_cons.1 h with rfl | h
      · simpa [Nat.ble_eq] using hle
      · exact newOnes_ge lo r p h
    · cases h

theorem own_rw {k : ABlk} (h : k.own = true) : k.rw = true := by
  simp only [ABlk.own, Bool.and_eq_true] at h
  exact h.1
theorem own_nofro {k : ABlk} (h : k.own = true) : k.isFro = false := by
  simp only [ABlk.own, Bool.and_eq_true] at h
  simpa using h.2
theorem decr_nofro : ∀ (bs : List (Nat × ABlk)), decr bs = true → ∀ p ∈ bs, p.2.isFro = false
  | [], _ => fun p h => (by cases h)
  | [(i, k)], h => fun p hp => by
    simp only [List.mem_singleton] at hp; subst hp; exact own_nofro h
  | (i, k) :: (j, k') :: r, h => fun p hp => by
    simp only [decr, Bool.and_eq_true] at h
    rcases List.mem_cons.1 hp with rfl | hp
    · exact own_nofro h.1.2
    · exact decr_nofro ((j, k') :: r) h.2 p hp

theorem decr_spec : ∀ (bs : List (Nat × ABlk)), decr bs = true → (∀ p ∈ bs, p.2.rw = true) ∧ (∀ p, bs.head? = some p → ∀ q ∈ bs, q.1 ≤ p.1) ∧ ∀ r, ∀ p ∈ bs, lookB (bs ++ r) p.1 = some p.2
  | [], _ => ⟨fun p h => (by cases h), fun p h => (by cases h), fun r p h => (by cases h)⟩
  | [(i, k)], h => by
    have hk : k.rw = true := own_rw h
    refine ⟨fun p hp => ?_, fun p hp q hq => ?_, fun r p hp => ?_⟩
    · simp only [List.mem_singleton] at hp; subst hp; exact hk
    · simp only [List.head?_cons, Option.some.injEq] at hp; subst hp
      simp only [List.mem_singleton] at hq; subst hq; exact Nat.le_refl _
    · simp only [List.mem_singleton] at hp; subst hp; simp [lookB]
  | (i, k) :: (j, k') :: r, h => by
    simp only [decr, Bool.and_eq_true, Nat.blt_eq] at h
    obtain ⟨⟨h1, h2⟩, h3⟩ := h
    obtain ⟨g1, g2, g3⟩ := decr_spec ((j, k') :: r) h3
    have hlt : ∀ q ∈ ((j, k') :: r), q.1 < i := fun q hq => Nat.lt_of_le_of_lt (g2 (j, k') rfl q hq) h1
    refine ⟨fun p hp => ?_, fun p hp q hq => ?_, fun s p hp => ?_⟩
    · rcases List.mem_cons.1 hp with rfl | hp
      · exact own_rw h2
      · exact g1 p hp
    · simp only [List.head?_cons, Option.some.injEq] at hp; subst hp
      rcases List.mem_cons.1 hq with rfl | hq
      · exact Nat.le_refl _
      · exact Nat.le_of_lt (hlt q hq)
    · rcases List.mem_cons.1 hp with rfl | hp
      · simp [lookB]
      · have := hlt p hp
        rw [List.cons_append, lookB, beq_ne (by omega : ¬ p.1 = i)]
        simpa using g3 s p hp

theorem decrK_lt : ∀ (i : Nat) (k : ABlk) (r : List (Nat × ABlk)), decrK ((i, k) :: r) = true → ∀ p ∈ r, p.1 < i
  | _, _, [], _, p, h => by cases h
  | i, k, (j, k') :: r, h, p, hp => by
    simp only [decrK, Bool.and_eq_true, Nat.blt_eq] at h
    rcases List.mem_cons.1 hp with rfl | hp
    · exact h.1
    · exact Nat.lt_trans (decrK_lt j k' r h.2 p hp) h.1

theorem decrK_look : ∀ (bs : List (Nat × ABlk)), decrK bs = true → ∀ p ∈ bs, lookB bs p.1 = some p.2
  | [], _, p, h => by cases h
  | (i, k) :: r, h, p, hp => by
    rcases List.mem_cons.1 hp with rfl | hp
    · simp [lookB]
    · have hlt := decrK_lt i k r h p hp
      rw [lookB, beq_ne (by omega : ¬ p.1 = i)]
      simp only [Bool.false_eq_true, if_false]
      refine decrK_look r ?_ p hp
      cases r with
      | nil => rfl
      | cons q r => simp only [decrK, Bool.and_eq_true] at h; exact h.2

theorem HRel.lies {B : Nat} {ρ : BMap} {bs : List (Nat × ABlk)} {w : World} (h : HRel B ρ bs w) (hd : decrK bs = true) : Lies B ρ bs w := fun p hp => h.blk p.1 p.2 (decrK_look bs hd p hp)

theorem HRel.later {B : Nat} {ρ ρ' : BMap} {bs : List (Nat × ABlk)} {w w' : World} (h : HRel B ρ bs w) (he : Ext ρ ρ') (hb : Below w.heap.size w w') : HRel B ρ' bs w' := by
  have old : ∀ i k x, lookB bs i = some k → ρ' i = some x → ρ i = some x := fun i k x hk hx => by
    obtain ⟨z, hz, _⟩ := h.blk i k hk
    rw [he _ _ hz] at hx; cases hx; exact hz
  refine ⟨Nat.le_trans h.hB hb.size, fun i k hk => ?_, fun i j ki kj xi xj hi hj hki hkj hxi hxj => h.inj i j ki kj xi xj hi hj hki hkj (old i ki xi hi hxi) (old j kj xj hj hxj), h.glob.of (Nat.le_refl _) fun k hk => hb.block k (Nat.lt_of_lt_of_le hk h.hB)⟩
  obtain ⟨x, hx, hr⟩ := h.blk i k hk
  exact ⟨x, he _ _ hx, (hr.ext he).same (hb.block _ hr.lt)⟩

/-- Entries that the region's operations have made. -/
structure Made (B N0 : Nat) (ρ : BMap) (bs : List (Nat × ABlk)) (w : World) : Prop where
  lie : Lies B ρ bs w
  rw_ : ∀ p ∈ bs, p.2.rw = true
  high : ∀ p ∈ bs, ∀ x, ρ p.1 = some x → N0 ≤ x.1
  inj : ∀ p ∈ bs, ∀ q ∈ bs, ∀ x y, ρ p.1 = some x → ρ q.1 = some y → x.1 = y.1 → p.1 = q.1

theorem Made.later {B N0 : Nat} {ρ ρ' : BMap} {bs : List (Nat × ABlk)} {w w' : World} (h : Made B N0 ρ bs w) (he : Ext ρ ρ') (hb : Below w.heap.size w w') : Made B N0 ρ' bs w' := by
  have hx : ∀ p ∈ bs, ∀ x, ρ' p.1 = some x → ρ p.1 = some x := fun p hp x hx => by
    obtain ⟨z, hz, _⟩ := h.lie p hp
    rw [he _ _ hz] at hx; cases hx; exact hz
  exact ⟨h.lie.later he hb, h.rw_, fun p hp x h1 => h.high p hp x (hx p hp x h1), fun p hp q hq x y h1 h2 => h.inj p hp q hq x y (hx p hp x h1) (hx q hq y h2)⟩

/-- What was made and what was there are together the memory. -/
theorem Made.join {B N0 : Nat} {ρ0 ρ : BMap} {bs bs0 : List (Nat × ABlk)} {w0 w : World} (h : Made B N0 ρ bs w) (h0 : HRel B ρ0 bs0 w0) (hN : w0.heap.size = N0) (he : Ext ρ0 ρ) (hl : Lies B ρ bs0 w) (hB : B ≤ w.heap.size) (hgl : Globs B w) : HRel B ρ (bs ++ bs0) w := by
  have part : ∀ i k, lookB (bs ++ bs0) i = some k → (i, k) ∈ bs ∨ lookB bs0 i = some k := by
    intro i k
    induction bs with
    | nil => intro hk; exact .inr hk
    | cons p r ih =>
      obtain ⟨j, q⟩ := p
      intro hk
      simp only [List.cons_append, lookB] at hk
      split at hk
      · rename_i hb
        have : i = j := Nat.eq_of_beq_eq_true hb
        subst this
        cases hk
        exact .inl List.mem_cons_self
      · rcases ih ⟨h.lie.sub fun p hp => List.mem_cons_of_mem _ hp, fun p hp => h.rw_ p (List.mem_cons_of_mem _ hp), fun p hp => h.high p (List.mem_cons_of_mem _ hp), fun p hp q hq => h.inj p (List.mem_cons_of_mem _ hp) q (List.mem_cons_of_mem _ hq)⟩ hk with h1 | h1
        · exact .inl (List.mem_cons_of_mem _ h1)
        · exact .inr h1
  have low : ∀ i k x, lookB bs0 i = some k → ρ i = some x → ρ0 i = some x ∧ x.1 < N0 := by
    intro i k x hk hx
    obtain ⟨z, hz, hr⟩ := h0.blk i k hk
    rw [he _ _ hz] at hx; cases hx
    exact ⟨hz, by have := hr.lt; omega⟩
  refine ⟨hB, fun i k hk => ?_, fun i j ki kj xi xj hi hj hki hkj hxi hxj heq => ?_, hgl⟩
  · rcases part i k hk with h1 | h1
    · exact h.lie _ h1
    · exact hl _ (lookB_mem h1)
  · rcases part i ki hi with h1 | h1
    · rcases part j kj hj with h2 | h2
      · exact .inl (h.inj _ h1 _ h2 xi xj hxi hxj heq)
      · have := h.high _ h1 xi hxi
        have := (low j kj xj h2 hxj).2
        omega
    · rcases part j kj hj with h2 | h2
      · have := h.high _ h2 xj hxj
        have := (low i ki xi h1 hxi).2
        omega
      · exact h0.inj i j ki kj xi xj h1 h2 hki hkj (low i ki xi h1 hxi).1 (low j kj xj h2 hxj).1 heq

theorem news_mem {keep : Nat → Bool} : ∀ {rs : List DR} {p : Nat × ABlk}, p ∈ news keep rs ↔ ∃ r ∈ rs, r.kind = 1 ∧ keep r.i = true ∧ p ∈ r.nb
  | [], p => by simp [news]
  | r :: rs, p => by
    simp only [news]
    split
    · rename_i h
      simp only [Bool.and_eq_true, Nat.beq_eq] at h
      rw [List.mem_append, news_mem]
      constructor
      · rintro (h1 | ⟨q, hq, h1⟩)
        · exact ⟨r, List.mem_cons_self, h.1, h.2, h1⟩
        · exact ⟨q, List.mem_cons_of_mem _ hq, h1⟩
      · rintro ⟨q, hq, h1, h2, h3⟩
        rcases List.mem_cons.1 hq with rfl | hq
        · exact .inl h3
        · exact .inr ⟨q, hq, h1, h2, h3⟩
    · rename_i h
      rw [news_mem]
      constructor
      · rintro ⟨q, hq, h1⟩
        exact ⟨q, List.mem_cons_of_mem _ hq, h1⟩
      · rintro ⟨q, hq, h1, h2, h3⟩
        rcases List.mem_cons.1 hq with rfl | hq
        · exact absurd (by simp [h1, h2]) h
        · exact ⟨q, hq, h1, h2, h3⟩

end Go.Proofs.Ytjginpeoblilpaa
