/-
  What is proved: nothing of the program. This text holds the steps of the abstract memory: a new block, a load, a store.
-/
import Derived.Test.YtjginpeoblilpaaEvA
namespace Go.Proofs.Ytjginpeoblilpaa
open Go.RowKit
set_option linter.unusedSimpArgs false
set_option linter.unusedVariables false

def Free (ρ : BMap) (lo hi : Nat) : Prop := ∀ i, lo ≤ i → i < hi → ρ i = none

structure Post (B : Nat) (ρ : BMap) (H : AH) (w : World) (H' : AH) (ρ' : BMap) (w' : World) : Prop where
  ext : Ext ρ ρ'
  out : ∀ i, (i < H.next ∨ H'.next ≤ i) → ρ' i = ρ i
  rel : HRel B ρ' H'.bs w'
  below : Below B w w'

theorem Post.same {B : Nat} {ρ : BMap} {H : AH} {w : World} (h : HRel B ρ H.bs w) : Post B ρ H w H ρ w :=
  ⟨Ext.refl ρ, fun _ _ => rfl, h, Below.refl B w⟩

theorem Post.trans {B : Nat} {ρ ρ1 ρ2 : BMap} {H H1 H2 : AH} {w w1 w2 : World} (h : Post B ρ H w H1 ρ1 w1) (k : Post B ρ1 H1 w1 H2 ρ2 w2)
    (h1 : H.next ≤ H1.next) (h2 : H1.next ≤ H2.next) : Post B ρ H w H2 ρ2 w2 :=
  ⟨h.ext.trans k.ext, fun i hi => (k.out i (by omega)).trans (h.out i (by omega)), k.rel, h.below.trans k.below⟩

theorem Free.later {B : Nat} {ρ ρ1 : BMap} {H H1 : AH} {w w1 : World} {hi : Nat} (h : Post B ρ H w H1 ρ1 w1) (h1 : H.next ≤ H1.next) (hf : Free ρ H.next hi) : Free ρ1 H1.next hi :=
  fun i hl hh => (h.out i (.inr hl)).trans (hf i (by omega) hh)

theorem HRel.drew {B : Nat} {ρ : BMap} {bs : List (Nat × ABlk)} {w : World} (h : HRel B ρ bs w) : HRel B ρ bs w.drew :=
  ⟨h.hB, fun i k hk => let ⟨x, hx, hr⟩ := h.blk i k hk; ⟨x, hx, hr.same rfl⟩, h.inj, h.glob.of (Nat.le_refl _) fun _ _ => rfl⟩

/-- A world whose heap is the same. -/
theorem HRel.heap {B : Nat} {ρ : BMap} {bs : List (Nat × ABlk)} {w w' : World} (h : HRel B ρ bs w) (e : w'.heap = w.heap) : HRel B ρ bs w' :=
  ⟨by rw [e]; exact h.hB, fun i k hk => let ⟨x, hx, hr⟩ := h.blk i k hk; ⟨x, hx, hr.same (by rw [e])⟩, h.inj, h.glob.of (Nat.le_refl _) fun _ _ => by rw [e]⟩

theorem alloc_new (w : World) (o : Obj) : (w.alloc o).heap[w.heap.size]? = some o := by
  show (w.heap.push o)[w.heap.size]? = some o
  simp

def pushB (H : AH) (k : ABlk) : AH := { next := H.next + 1, bs := (H.next, k) :: H.bs }

/-- The new map behind an allocation. -/
def bmapAt (ρ : BMap) (n b tot : Nat) : BMap := fun i => if i = n then some (b, 0, tot) else ρ i

theorem bmapAt_self (ρ : BMap) (n b tot : Nat) : bmapAt ρ n b tot n = some (b, 0, tot) := by simp [bmapAt]

theorem post_push {B : Nat} {ρ : BMap} {H : AH} {w : World} (h : HRel B ρ H.bs w) (hf : Free ρ H.next (H.next + 1)) (o : Obj) (k : ABlk) (tot : Nat)
    (hk : BRel (bmapAt ρ H.next w.heap.size tot) B (w.alloc o) (w.heap.size, 0, tot) k) :
    Post B ρ H w (pushB H k) (bmapAt ρ H.next w.heap.size tot) (w.alloc o) := by
  obtain ⟨he, hr⟩ := h.alloc (n := H.next) (tot := tot) (hf _ (Nat.le_refl _) (by omega)) o k hk
  refine ⟨he, fun i hi => ?_, hr, (Below.refl B w).alloc h.hB o⟩
  have hi' : i < H.next ∨ H.next + 1 ≤ i := hi
  have : ¬ i = H.next := by omega
  simp [bmapAt, this]

theorem ext_bmapAt {ρ : BMap} {n b tot : Nat} (hf : ρ n = none) : Ext ρ (bmapAt ρ n b tot) := by
  intro i x hx
  by_cases e : i = n
  · subst e; rw [hf] at hx; cases hx
  · simpa [bmapAt, e] using hx

/-- A new row of cells: the first of them are the abstract ones. -/
theorem post_row {B : Nat} {ρ : BMap} {H : AH} {w : World} (h : HRel B ρ H.bs w) (hf : Free ρ H.next (H.next + 1)) (cs : List Value) (ccs : Array Value) (e : TypeId)
    (hl : cs.length ≤ ccs.size) (hc : ∀ (j : Nat) (v : Value), cs[j]? = some v → ∃ u, ccs[j]? = some u ∧ VRel ρ v u) :
    Post B ρ H w (pushB H (.cells false cs)) (bmapAt ρ H.next w.heap.size ccs.size) (w.alloc (.cells ccs e)) := by
  refine post_push h hf _ _ _ ?_
  refine ⟨ccs, e, (0, 0), ?_, ?_, ?_⟩
  · exact alloc_new w _
  · intro j v hv
    obtain ⟨u, hu, hr⟩ := hc j v hv
    exact ⟨u, by simpa using hu, hr.ext (ext_bmapAt (hf _ (Nat.le_refl _) (by omega)))⟩
  · simp [h.hB, hl]

/-- A load of cells. -/
noncomputable def takeCells (cs : List Value) (off n : Nat) : Option (List Value) := takeK (dropR cs off) n some

theorem takeCells_spec (n off : Nat) (cs l : List Value) (h : takeCells cs off n = some l) : l.length = n ∧ ∀ j, j < n → l[j]? = cs[off + j]? := by
  unfold takeCells at h
  rw [takeK_eq, dropR_eq] at h
  split at h
  · rename_i hn
    cases h
    refine ⟨by rw [List.length_take]; omega, fun j hj => ?_⟩
    rw [List.getElem?_take, if_pos hj, List.getElem?_drop]
  · cases h

/-- The cells of an abstract block, as they lie. -/
theorem HRel.cells {B : Nat} {ρ : BMap} {bs : List (Nat × ABlk)} {w : World} (h : HRel B ρ bs w) {i : Nat} {ro : Bool} {cs : List Value} (hi : lookB bs i = some (.cells ro cs)) {b o tot : Nat} (hρ : ρ i = some (b, o, tot)) :
    ∀ (j : Nat) (v : Value), cs[j]? = some v → ∃ u, w.cell? ⟨b, o + j, none⟩ = some u ∧ VRel ρ v u := by
  obtain ⟨x, hx, ccs, e, fz, h1, h2, _⟩ := h.blk i _ hi
  rw [hρ] at hx; cases hx
  intro j v hv
  obtain ⟨u, hu, hr⟩ := h2 j v hv
  exact ⟨u, by simp only [World.cell?]; rw [h1]; simpa using hu, hr⟩

theorem addr_add (b o n : Nat) : (⟨b, o, none⟩ : Addr).add n = ⟨b, o + n, none⟩ := Addr.add_lit b o n

/-- Loading n cells. -/
theorem run_cells {P : Program} {B : Nat} {ρ : BMap} {bs : List (Nat × ABlk)} {w : World} (h : HRel B ρ bs w) {i off n : Nat} {ro : Bool} {cs l : List Value} (hi : lookB bs i = some (.cells ro cs))
    {b o tot : Nat} (hρ : ρ i = some (b, o, tot)) (hl : takeCells cs off n = some l) :
    ∃ c : List Value, (loadCells ⟨b, o + off, none⟩ n).run P w = .ok c.toArray w ∧ (∀ (j : Nat) (v : Value), c[j]? = some v → w.cell? ⟨b, o + off + j, none⟩ = some v) ∧ LRel ρ l c.toArray := by
  obtain ⟨hn, hsp⟩ := takeCells_spec n off cs l hl
  have hc := h.cells hi hρ
  let c : List Value := (List.range n).map fun j => (w.cell? ⟨b, o + off + j, none⟩).getD undef
  have hcl : c.length = n := by simp [c]
  have hcell : ∀ (j : Nat) (v : Value), c[j]? = some v → w.cell? ⟨b, o + off + j, none⟩ = some v := by
    intro j v hv
    have hj : j < n := by
      rcases Nat.lt_or_ge j n with hj | hj
      · exact hj
      · rw [List.getElem?_eq_none (by omega)] at hv; cases hv
    obtain ⟨x, hx⟩ : ∃ x, cs[off + j]? = some x := by
      have := hsp j hj
      rw [← this]; exact ⟨l[j], List.getElem?_eq_getElem (by omega)⟩
    obtain ⟨u, hu, _⟩ := hc _ _ hx
    have e : c[j]? = some ((w.cell? ⟨b, o + off + j, none⟩).getD undef) := by simp [c, hj]
    rw [e] at hv
    rw [show o + (off + j) = o + off + j by omega] at hu
    rw [hu] at hv ⊢
    simpa using hv
  refine ⟨c, ?_, hcell, ?_⟩
  · have := run_loadCells_list (P := P) w ⟨b, o + off, none⟩ c (fun j v hv => by rw [addr_add]; exact hcell j v hv)
    rw [hcl] at this
    exact this
  · refine ⟨by simp [hn, hcl], fun j v v' hv hv' => ?_⟩
    have hj : j < n := by
      rcases Nat.lt_or_ge j n with hj | hj
      · exact hj
      · rw [List.getElem?_eq_none (by omega)] at hv; cases hv
    rw [hsp j hj] at hv
    obtain ⟨u, hu, hr⟩ := hc _ _ hv
    have := hcell j v' (by simpa using hv')
    rw [show o + (off + j) = o + off + j by omega] at hu
    rw [hu] at this; cases this
    exact hr

/-- Writing cells. -/
def putCells : List Value → Nat → List Value → List Value
  | cs, _, [] => cs
  | cs, off, v :: r => putCells (cs.set off v) (off + 1) r

theorem putCells_length : ∀ (vs cs : List Value) (off : Nat), (putCells cs off vs).length = cs.length
  | [], _, _ => rfl
  | v :: r, cs, off => by rw [putCells, putCells_length r]; simp

theorem putCells_get : ∀ (vs cs : List Value) (off j : Nat), off + vs.length ≤ cs.length →
    (putCells cs off vs)[j]? = if off ≤ j ∧ j < off + vs.length then vs[j - off]? else cs[j]?
  | [], cs, off, j, _ => by
    have : ¬ (off ≤ j ∧ j < off + ([] : List Value).length) := by simp only [List.length_nil]; omega
    rw [if_neg this]; rfl
  | v :: r, cs, off, j, h => by
    simp only [List.length_cons] at h
    rw [putCells, putCells_get r (cs.set off v) (off + 1) j (by simp; omega)]
    by_cases h1 : off + 1 ≤ j ∧ j < off + 1 + r.length
    · rw [if_pos h1, if_pos (by simp; omega)]
      rw [show j - off = (j - (off + 1)) + 1 by omega]
      simp
    · rw [if_neg h1]
      by_cases h2 : j = off
      · subst h2
        rw [if_pos (by simp)]
        have : j < cs.length := by omega
        simp [this]
      · rw [if_neg (by simp only [List.length_cons]; omega)]
        rw [List.getElem?_set_ne (by omega)]

theorem setCells_heap : ∀ (vs : List Value) (b o : Nat) (w : World) (cur : Array Value) (e : TypeId) (fz : Nat × Nat), w.heap[b]? = some (.cells cur e fz) →
    (w.setCells b o vs).heap[b]? = some (.cells (putCells cur.toList o vs).toArray e fz) ∧ (∀ k, k ≠ b → (w.setCells b o vs).heap[k]? = w.heap[k]?) ∧
    (w.setCells b o vs).heap.size = w.heap.size ∧ (w.setCells b o vs).os = w.os ∧ (w.setCells b o vs).tape = w.tape ∧ (w.setCells b o vs).output = w.output
  | [], b, o, w, cur, e, fz, h => by simp [World.setCells, putCells, h]
  | v :: r, b, o, w, cur, e, fz, h => by
    have h1 : (w.setCell ⟨b, o, none⟩ v).heap[b]? = some (.cells (cur.setIfInBounds o v) e fz) := by
      simp [World.setCell, Array.getElem?_modify, h]
    obtain ⟨g1, g2, g3, g4, g5, g6⟩ := setCells_heap r b (o + 1) _ _ e fz h1
    rw [World.setCells]
    refine ⟨?_, fun k hk => ?_, ?_, g4, g5, g6⟩
    · rw [g1]; simp [putCells]
    · rw [g2 k hk]; exact Below.heap_setCell w ⟨b, o, none⟩ v k hk
    · rw [g3]; simp

theorem below_setCells {B : Nat} {w : World} {b o : Nat} {vs : List Value} {cur : Array Value} {e : TypeId} {fz : Nat × Nat} (h : w.heap[b]? = some (.cells cur e fz)) (hb : B ≤ b) : Below B w (w.setCells b o vs) := by
  obtain ⟨g1, g2, g3, g4, g5, g6⟩ := setCells_heap vs b o w cur e fz h
  exact ⟨g4, g5, g6, by omega, fun k hk => g2 k (by omega)⟩

/-- Writing cells, with few steps. -/
noncomputable def putF (cs : List Value) (off : Nat) (vs : List Value) : List Value :=
  match vs with
  | [v] => setR cs v off
  | vs => appR (takeR cs off) (appR vs (dropR cs (off + vs.length)))

theorem putF_eq {cs vs : List Value} {off : Nat} (h : off + vs.length ≤ cs.length) : putF cs off vs = putCells cs off vs := by
  unfold putF
  split
  · rw [setR_eq]; rfl
  · rw [appR_eq, appR_eq, takeR_eq, dropR_eq]
    apply List.ext_getElem?
    intro j
    rw [putCells_get _ _ _ _ h]
    rw [List.getElem?_append, List.length_take, Nat.min_eq_left (by omega)]
    by_cases h1 : j < off
    · rw [if_pos h1, if_neg (by omega), List.getElem?_take, if_pos h1]
    · rw [if_neg h1, List.getElem?_append]
      by_cases h2 : j - off < vs.length
      · rw [if_pos h2, if_pos (by omega)]
      · rw [if_neg h2, if_neg (by omega), List.getElem?_drop]
        congr 1
        omega

/-- A block is changed in place. -/
theorem HRel.change {B : Nat} {ρ : BMap} {bs : List (Nat × ABlk)} {w w' : World} (h : HRel B ρ bs w) {i : Nat} {k k' : ABlk} (hi : lookB bs i = some k) (hk : k.rw = true) (_hk' : k'.rw = true) {x : Nat × Nat × Nat} (hρ : ρ i = some x)
    (hsz : w.heap.size ≤ w'.heap.size) (hoth : ∀ j, j ≠ x.1 → w'.heap[j]? = w.heap[j]?) (hn : BRel ρ B w' x k') (hnf : k.isFro = false := by rfl) : HRel B ρ (setB bs i k') w' := by
  have hx1 : B ≤ x.1 := by
    obtain ⟨y, hy, hr⟩ := h.blk i k hi
    rw [hρ] at hy; cases hy
    exact hr.rw_ge hk
  refine ⟨Nat.le_trans h.hB hsz, ?_, ?_, h.glob.of (Nat.le_refl _) fun k hk => hoth k (by omega)⟩
  · intro j kj hj
    rw [lookB_setB] at hj
    by_cases e : j = i
    · subst e
      simp only [if_true, hi, Option.map_some, Option.some.injEq] at hj
      subst hj
      exact ⟨x, hρ, hn⟩
    · simp only [e, if_false] at hj
      obtain ⟨y, hy, hr⟩ := h.blk j kj hj
      refine ⟨y, hy, hr.same (hoth _ ?_)⟩
      intro e'
      cases hkj : kj.rw with
      | true =>
        rcases h.inj j i kj k y x hj hi hkj hk hy hρ e' with g | g
        · exact e g
        · rw [hnf] at g; exact absurd g.2.1 (by simp)
      | false => have := hr.ro_lt hkj; omega
  · intro a c ka kc xa xc ha hc hka hkc hxa hxc heq
    rw [lookB_setB] at ha hc
    have hA : ∃ ka', lookB bs a = some ka' ∧ ka'.rw = true ∧ ((a = i ∧ ka' = k) ∨ ka' = ka) := by
      by_cases e : a = i
      · subst e; exact ⟨k, hi, hk, .inl ⟨rfl, rfl⟩⟩
      · simp only [e, if_false] at ha; exact ⟨ka, ha, hka, .inr rfl⟩
    have hC : ∃ kc', lookB bs c = some kc' ∧ kc'.rw = true ∧ ((c = i ∧ kc' = k) ∨ kc' = kc) := by
      by_cases e : c = i
      · subst e; exact ⟨k, hi, hk, .inl ⟨rfl, rfl⟩⟩
      · simp only [e, if_false] at hc; exact ⟨kc, hc, hkc, .inr rfl⟩
    obtain ⟨ka', h1, h2, h5⟩ := hA
    obtain ⟨kc', h3, h4, h6⟩ := hC
    rcases h.inj a c ka' kc' xa xc h1 h3 h2 h4 hxa hxc heq with g | ⟨g1, g2, g3⟩
    · exact .inl g
    · rcases h5 with ⟨_, rfl⟩ | rfl
      · rw [hnf] at g1; cases g1
      · rcases h6 with ⟨_, rfl⟩ | rfl
        · rw [hnf] at g2; cases g2
        · exact .inr ⟨g1, g2, g3⟩

def cellV : Value → Bool
  | .agg _ | .tuple _ => false
  | _ => true

theorem cellV_rel {ρ : BMap} {v u : Value} (h : VRel ρ v u) (hv : cellV v = true) : u.oneCell' = true := by
  cases h <;> first | rfl | (simp [cellV] at hv)

/-- A store of cells into a block of one's own. -/
theorem run_stores {P : Program} {B : Nat} {ρ : BMap} {H : AH} {w : World} (h : HRel B ρ H.bs w) {i off : Nat} {cs vs : List Value} (hi : lookB H.bs i = some (.cells false cs)) {b o tot : Nat} (hρ : ρ i = some (b, o, tot))
    {us : Array Value} (hr : LRel ρ vs us) (hall : vs.all cellV = true) (hlen : off + vs.length ≤ cs.length) :
    ∃ w', (storeCells ⟨b, o + off, none⟩ us.toList).run P w = .ok () w' ∧ Post B ρ H w { H with bs := setB H.bs i (.cells false (putCells cs off vs)) } ρ w' := by
  obtain ⟨x, hx, ccs, e, fz, h1, h2, h3⟩ := h.blk i _ hi
  rw [hρ] at hx; cases hx
  simp only [Bool.false_eq_true, if_false] at h3
  obtain ⟨⟨h3, hfz, h5⟩, h6⟩ := h3
  have hul : us.toList.length = vs.length := by simp [hr.1]
  have hlt : o + off + vs.length ≤ ccs.size := by omega
  have hrun := run_storeCells_cells (P := P) b (o + off) us.toList 0 w
    (fun j hj => by
      simp only [World.cell?, h1, Nat.add_zero]
      have : o + off + j < ccs.size := by omega
      simp [Array.getElem?_eq_getElem this])
    (fun j hj => by
      simp only [World.frozen?, h1]
      rcases hfz with rfl | hfz
      · simp
      · obtain ⟨lo, hi⟩ := fz
        simp only at hfz
        have : ¬ lo ≤ o + off + j := by omega
        simp [this])
    (fun v hv => by
      obtain ⟨j, hj⟩ := List.getElem?_of_mem hv
      have hj' : j < vs.length := by rw [← hul]; exact (List.getElem?_eq_some_iff.1 hj).1
      have hvj : vs[j]? = some vs[j] := List.getElem?_eq_getElem hj'
      exact cellV_rel (hr.2 j _ _ hvj (by simpa using hj)) (List.all_eq_true.1 hall _ (List.getElem_mem hj')))
  simp only [Nat.add_zero] at hrun
  refine ⟨_, hrun, Ext.refl ρ, fun _ _ => rfl, ?_, below_setCells h1 h3⟩
  obtain ⟨g1, g2, g3, _⟩ := setCells_heap us.toList b (o + off) w ccs e fz h1
  refine h.change hi rfl rfl hρ (by omega) g2 ⟨_, e, fz, g1, ?_, ?_⟩
  · intro j v hv
    rw [putCells_get vs cs off j hlen] at hv
    by_cases hc : off ≤ j ∧ j < off + vs.length
    · rw [if_pos hc] at hv
      have hju : j - off < us.size := by rw [← hr.1]; omega
      refine ⟨us[j - off], ?_, hr.2 (j - off) _ _ hv (Array.getElem?_eq_getElem hju)⟩
      rw [List.getElem?_toArray, putCells_get us.toList ccs.toList (o + off) (o + j) (by rw [hul, Array.length_toList]; omega), if_pos (by rw [hul]; omega)]
      rw [show o + j - (o + off) = j - off by omega]
      simp [hju]
    · rw [if_neg hc] at hv
      obtain ⟨u, hu, hr'⟩ := h2 j v hv
      refine ⟨u, ?_, hr'⟩
      rw [List.getElem?_toArray, putCells_get us.toList ccs.toList (o + off) (o + j) (by rw [hul, Array.length_toList]; omega), if_neg (by rw [hul]; omega)]
      simpa using hu
  · simp only [Bool.false_eq_true, if_false]
    refine ⟨⟨h3, hfz, ?_⟩, ?_⟩
    · simp [putCells_length]; omega
    · simp [putCells_length]; omega

end Go.Proofs.Ytjginpeoblilpaa
