/-
  What is proved: nothing of the program. This text holds the operations on blocks that tell their type: those of strings.Builder.
-/
import Derived.Test.YtjginpeoblilpaaEvJ
import Derived.Lib.Builder
import Derived.Lib.MakeNoZero
import Derived.Lib.UnsafeStr
namespace Go.Proofs.Ytjginpeoblilpaa
open Go.RowKit
set_option linter.unusedSimpArgs false
set_option linter.unusedVariables false

/-- Rows of bytes that no longer tell their type. -/
noncomputable def untK : ABlk → ABlk
  | .tcells false cs _ => .cells false cs
  | k => k

noncomputable def untR : List (Nat × ABlk) → List (Nat × ABlk)
  | [] => []
  | (i, k) :: r => (i, untK k) :: untR r

noncomputable def hasR : List (Nat × ABlk) → Bool
  | [] => false
  | (_, .tcells false _ _) :: _ => true
  | _ :: r => hasR r

theorem lookB_untR : ∀ (bs : List (Nat × ABlk)) (i : Nat), lookB (untR bs) i = (lookB bs i).map untK
  | [], i => rfl
  | (j, k) :: r, i => by
    simp only [untR, lookB]
    split
    · rfl
    · exact lookB_untR r i

theorem untK_rw (k : ABlk) : (untK k).rw = k.rw := by
  unfold untK
  split <;> rfl

theorem untK_fro (k : ABlk) : (untK k).isFro = k.isFro := by
  unfold untK
  split <;> rfl

theorem brel_untK {ρ : BMap} {B : Nat} {w : World} {x : Nat × Nat × Nat} {k : ABlk} (h : BRel ρ B w x k) : BRel ρ B w x (untK k) := by
  unfold untK
  split
  · exact h.unt
  · exact h

theorem HRel.untR {B : Nat} {ρ : BMap} {bs : List (Nat × ABlk)} {w : World} (h : HRel B ρ bs w) : HRel B ρ (untR bs) w := by
  refine ⟨h.hB, fun i k hk => ?_, fun i j ki kj xi xj hi hj hki hkj => ?_, h.glob⟩
  · rw [lookB_untR] at hk
    simp only [Option.map_eq_some_iff] at hk
    obtain ⟨k0, h0, rfl⟩ := hk
    obtain ⟨x, hx, hr⟩ := h.blk i k0 h0
    exact ⟨x, hx, brel_untK hr⟩
  · rw [lookB_untR] at hi hj
    simp only [Option.map_eq_some_iff] at hi hj
    obtain ⟨k1, h1, rfl⟩ := hi
    obtain ⟨k2, h2, rfl⟩ := hj
    rw [untK_rw] at hki hkj
    rw [untK_fro, untK_fro]
    exact h.inj i j k1 k2 xi xj h1 h2 hki hkj

/-- A block alone, as one of cells. -/
theorem HRel.one {B : Nat} {ρ : BMap} {bs : List (Nat × ABlk)} {w : World} (h : HRel B ρ bs w) {i : Nat} {ex : Bool} {cs : List Value} {ty : TypeId} (hi : lookB bs i = some (.tcells ex cs ty)) : HRel B ρ [(i, .cells false cs)] w := by
  have only : ∀ j k, lookB [(i, ABlk.cells false cs)] j = some k → j = i ∧ k = .cells false cs := by
    intro j k hk
    simp only [lookB] at hk
    split at hk
    · rename_i hb
      exact ⟨Nat.eq_of_beq_eq_true hb, (Option.some.inj hk).symm⟩
    · cases hk
  refine ⟨h.hB, fun j k hk => ?_, fun a b ka kb xa xb ha hb _ _ _ _ _ => ?_, h.glob⟩
  · obtain ⟨rfl, rfl⟩ := only j k hk
    obtain ⟨x, hx, hr⟩ := h.blk j _ hi
    exact ⟨x, hx, hr.unt⟩
  · exact .inl (by rw [(only a ka ha).1, (only b kb hb).1])

/-- A block is given up, whatever becomes of it. -/
theorem HRel.gone {B : Nat} {ρ : BMap} {bs : List (Nat × ABlk)} {w w' : World} (h : HRel B ρ bs w) {i : Nat} {k : ABlk} (hi : lookB bs i = some k) (hk : k.rw = true) {x : Nat × Nat × Nat} (hρ : ρ i = some x)
    (hsz : w.heap.size ≤ w'.heap.size) (hoth : ∀ j, j ≠ x.1 → w'.heap[j]? = w.heap[j]?) (hnf : k.isFro = false := by rfl) : HRel B ρ (dropB bs i) w' := by
  have hx1 : B ≤ x.1 := by
    obtain ⟨y, hy, hr⟩ := h.blk i k hi
    rw [hρ] at hy; cases hy
    exact hr.rw_ge hk
  have old : ∀ j kj, lookB (dropB bs i) j = some kj → j ≠ i ∧ lookB bs j = some kj := by
    intro j kj hj
    rw [lookB_dropB] at hj
    split at hj
    · cases hj
    · exact ⟨‹_›, hj⟩
  refine ⟨Nat.le_trans h.hB hsz, ?_, ?_, h.glob.of (Nat.le_refl _) fun k hk => hoth k (by omega)⟩
  · intro j kj hj
    obtain ⟨e, hj⟩ := old j kj hj
    obtain ⟨y, hy, hr⟩ := h.blk j kj hj
    refine ⟨y, hy, hr.same (hoth _ ?_)⟩
    intro e'
    cases hkj : kj.rw with
    | true =>
      rcases h.inj j i kj k y x hj hi hkj hk hy hρ e' with g | g
      · exact e g
      · rw [hnf] at g; exact absurd g.2.1 (by simp)
    | false => have := hr.ro_lt hkj; omega
  · intro a c ka kc xa xc ha hc
    exact h.inj a c ka kc xa xc (old a ka ha).2 (old c kc hc).2

/-- A new row of cells that tells its type. -/
theorem post_rowT {B : Nat} {ρ : BMap} {H : AH} {w : World} (h : HRel B ρ H.bs w) (hf : Free ρ H.next (H.next + 1)) (ex : Bool) (cs : List Value) (ccs : Array Value) (e : TypeId)
    (hl : cs.length ≤ ccs.size) (hx : ex = true → cs.length = ccs.size) (hc : ∀ (j : Nat) (v : Value), cs[j]? = some v → ∃ u, ccs[j]? = some u ∧ VRel ρ v u) :
    Post B ρ H w (pushB H (.tcells ex cs e)) (bmapAt ρ H.next w.heap.size ccs.size) (w.alloc (.cells ccs e)) := by
  refine post_push h hf _ _ _ ⟨rfl, h.hB, ccs, alloc_new w _, ?_, rfl, hl, hx⟩
  intro j v hv
  obtain ⟨u, hu, hr⟩ := hc j v hv
  exact ⟨u, hu, hr.ext (ext_bmapAt (hf _ (Nat.le_refl _) (by omega)))⟩

/-! ### load, store -/
noncomputable def aLoadT (T : TypeId → Option TI) (H : AH) (t : TypeId) (x : Value) : Option Value :=
  match x with
  | .pointer (some ⟨i, _, none⟩) => match lookB H.bs i with
    | some (.tcells _ cs _) => aLoad T { next := H.next, bs := [(i, .cells false cs)] } t x
    | _ => none
  | _ => none

theorem aLoadT_sound {P : Program} {T : TypeId → Option TI} (hT : TOk P T) {B : Nat} {ρ : BMap} {H : AH} {w : World} {t : TypeId} {x x' v : Value} (h : aLoadT T H t x = some v) (hH : HRel B ρ H.bs w) (hx : VRel ρ x x') :
    ∃ u, (Instr.loadAt t x').run P w = .ok u w ∧ VRel ρ v u := by
  unfold aLoadT at h
  split at h
  · split at h
    · rename_i hi
      exact aLoad_sound hT h (H := { next := H.next, bs := _ }) (hH.one hi) hx
    · cases h
  · cases h

noncomputable def aStoreT (T : TypeId → Option TI) (H : AH) (t : TypeId) (x v : Value) : Option AH :=
  match x with
  | .pointer (some ⟨i, off, none⟩) =>
    match lookB H.bs i, T t with
    | some (.tcells ex cs ty), some y =>
      let vs := v.cells.toList
      if Nat.beq vs.length y.size && Nat.ble (off + vs.length) cs.length && vs.all cellV then some { H with bs := setB H.bs i (.tcells ex (putF cs off vs) ty) } else none
    | _, _ => none
  | _ => none

theorem run_storesT {P : Program} {B : Nat} {ρ : BMap} {H : AH} {w : World} (h : HRel B ρ H.bs w) {i off : Nat} {ex : Bool} {ty : TypeId} {cs vs : List Value} (hi : lookB H.bs i = some (.tcells ex cs ty)) {b o tot : Nat} (hρ : ρ i = some (b, o, tot))
    {us : Array Value} (hr : LRel ρ vs us) (hall : vs.all cellV = true) (hlen : off + vs.length ≤ cs.length) :
    ∃ w', (storeCells ⟨b, o + off, none⟩ us.toList).run P w = .ok () w' ∧ Post B ρ H w { H with bs := setB H.bs i (.tcells ex (putCells cs off vs) ty) } ρ w' := by
  obtain ⟨x, hx, h0, h3, ccs, h1, h2, h5, h6, h7⟩ := h.blk i _ hi
  rw [hρ] at hx; cases hx
  simp only at h0 h3 h1 h2 h5
  subst h0
  rw [Nat.zero_add]
  have hul : us.toList.length = vs.length := by simp [hr.1]
  have hlt : off + vs.length ≤ ccs.size := by omega
  have hrun := run_storeCells_cells (P := P) b off us.toList 0 w
    (fun j hj => by
      simp only [World.cell?, h1, Nat.add_zero]
      have : off + j < ccs.size := by omega
      simp [Array.getElem?_eq_getElem this])
    (fun j hj => by
      simp only [World.frozen?, h1]
      simp)
    (fun v hv => by
      obtain ⟨j, hj⟩ := List.getElem?_of_mem hv
      have hj' : j < vs.length := by rw [← hul]; exact (List.getElem?_eq_some_iff.1 hj).1
      have hvj : vs[j]? = some vs[j] := List.getElem?_eq_getElem hj'
      exact cellV_rel (hr.2 j _ _ hvj (by simpa using hj)) (List.all_eq_true.1 hall _ (List.getElem_mem hj')))
  simp only [Nat.add_zero] at hrun
  refine ⟨_, hrun, Ext.refl ρ, fun _ _ => rfl, ?_, below_setCells h1 h3⟩
  obtain ⟨g1, g2, g3, _⟩ := setCells_heap us.toList b off w ccs ty (0, 0) h1
  refine h.change hi rfl rfl hρ (by omega) g2 ⟨rfl, h3, _, g1, ?_, ?_, ?_, ?_⟩
  · intro j v hv
    rw [putCells_get vs cs off j hlen] at hv
    by_cases hc : off ≤ j ∧ j < off + vs.length
    · rw [if_pos hc] at hv
      have hju : j - off < us.size := by rw [← hr.1]; omega
      refine ⟨us[j - off], ?_, hr.2 (j - off) _ _ hv (Array.getElem?_eq_getElem hju)⟩
      rw [List.getElem?_toArray, putCells_get us.toList ccs.toList off j (by rw [hul]; simp only [Array.length_toList]; omega), if_pos (by rw [hul]; omega)]
      simp [hju]
    · rw [if_neg hc] at hv
      obtain ⟨u, hu, hr'⟩ := h2 j v hv
      refine ⟨u, ?_, hr'⟩
      rw [List.getElem?_toArray, putCells_get us.toList ccs.toList off j (by rw [hul]; simp only [Array.length_toList]; omega), if_neg (by rw [hul]; omega)]
      simpa using hu
  · simp only [List.size_toArray, putCells_length, Array.length_toList]; exact h5
  · simp only [List.size_toArray, putCells_length, Array.length_toList]; exact h6
  · simp only [List.size_toArray, putCells_length, Array.length_toList]; exact h7

theorem aStoreT_sound {P : Program} {T : TypeId → Option TI} (hT : TOk P T) {B : Nat} {ρ : BMap} {H H' : AH} {w : World} {t : TypeId} {x x' v v' : Value} (h : aStoreT T H t x v = some H') (hH : HRel B ρ H.bs w) (hx : VRel ρ x x') (hv : VRel ρ v v') :
    ∃ w', (Instr.storeAt t x' v').run P w = .ok () w' ∧ Post B ρ H w H' ρ w' := by
  unfold aStoreT at h
  split at h
  · rename_i i off
    split at h
    · rename_i ex cs ty y hi ht
      dsimp only at h
      split at h
      · rename_i hc
        simp only [Bool.and_eq_true, Nat.beq_eq, Nat.ble_eq] at hc
        obtain ⟨⟨hc1, hc2⟩, hc3⟩ := hc
        rw [putF_eq hc2] at h
        cases h
        cases hx with
        | ptr hρ =>
          rename_i b o tot
          have hcs := vrel_cells hv
          obtain ⟨w', h1, h2⟩ := run_storesT (P := P) hH hi hρ hcs.list hc3 hc2
          refine ⟨w', ?_, h2⟩
          have hsz : v'.cells.size = y.size := by rw [← hcs.1, ← hc1]; simp
          simp only [Instr.storeAt, Instr.sureAddr, Sem.run_bind, Sem.run_pure, Result.andThen_ok, storeVar, hT.size ht w, hsz, ne_eq, not_true_eq_false, if_false, h1]
      · cases h
    · cases h
  · cases h

/-! ### append -/
noncomputable def dstRow (bs : List (Nat × ABlk)) (e : TypeId) : Value → Option (List Value × Nat × List (Nat × ABlk))
  | .slice none 0 0 => some ([], 0, bs)
  | .slice (some ⟨i, 0, none⟩) n sz =>
    match lookB bs i with
    | some (.tcells false cs ty) => if Nat.beq sz 1 && Nat.beq ty e then (takeCells cs 0 n).map fun l => (l, n, dropB bs i) else none
    | _ => none
  | _ => none

theorem run_cellsT {P : Program} {B : Nat} {ρ : BMap} {bs : List (Nat × ABlk)} {w : World} (h : HRel B ρ bs w) {i off n : Nat} {ex : Bool} {ty : TypeId} {cs l : List Value} (hi : lookB bs i = some (.tcells ex cs ty))
    {b o tot : Nat} (hρ : ρ i = some (b, o, tot)) (hl : takeCells cs off n = some l) :
    ∃ c : List Value, (loadCells ⟨b, o + off, none⟩ n).run P w = .ok c.toArray w ∧ (∀ (j : Nat) (v : Value), c[j]? = some v → w.cell? ⟨b, o + off + j, none⟩ = some v) ∧ LRel ρ l c.toArray :=
  run_cells (h.one hi) (i := i) (ro := false) (by simp [lookB]) hρ hl

theorem aAppendT_core {P : Program} {T : TypeId → Option TI} (hT : TOk P T) {B : Nat} {ρ : BMap} {H : AH} {w : World} {t tx ty e : TypeId} {sz0 by0 : Nat} {z0 : Value} {ex0 : TX} {y : TI} (ht : T t = some ⟨sz0, by0, z0, .slice e, ex0⟩) (hy : T e = some y) (hux : SrcT P tx) {s s' X : Value} {m n : Nat} {news olds : List Value} {bs' : List (Nat × ABlk)} {cn : List Value}
    (hy1 : y.size = 1) (hdst : dstRow H.bs e s = some (olds, n, bs')) (hc1 : (n + (m + 1)) * y.bytes ≤ 1000000000000) (hc2 : n + (m + 1) ≤ 1000000000000) (hc3 : news.all cellV = true)
    (hlen : ∀ w, (Builtin.lenOf X).run P w = .ok (m + 1) w) (hn1 : (Builtin.firstCells y.size (m + 1) X).run P w = .ok cn.toArray w) (hn1d : (Builtin.firstCells y.size (m + 1) X).run P w.drew = .ok cn.toArray w.drew) (hn3 : LRel ρ news cn.toArray) (hnl : news.length = (m + 1) * y.size)
    (hH : HRel B ρ H.bs w) (hf : Free ρ H.next (H.next + 1)) (hs : VRel ρ s s') :
    ∃ ρ' w' u, (Builtin.append_ #[t, tx] ty #[s', X]).run P w = .ok u w' ∧ VRel ρ' (.slice (some ⟨H.next, 0, none⟩) (n + (m + 1)) 1) u ∧ Post B ρ H w { next := H.next + 1, bs := (H.next, .tcells false (olds ++ news) e) :: bs' } ρ' w' := by
  -- a new row: what is needed
  have grow : ∀ (base : Option Addr) (sCap : Nat) (co : List Value), ¬ n + (m + 1) ≤ sCap → olds.length = n * y.size → LRel ρ olds co.toArray →
      (Builtin.firstCells y.size n (.slice base n sCap)).run P w.drew = .ok co.toArray w.drew → (∀ q k, lookB bs' q = some k → lookB H.bs q = some k) →
      ∃ ρ' w' u, (Builtin.append_ #[t, tx] ty #[.slice base n sCap, X]).run P w = .ok u w' ∧ VRel ρ' (.slice (some ⟨H.next, 0, none⟩) (n + (m + 1)) 1) u ∧
        Post B ρ H w { next := H.next + 1, bs := (H.next, .tcells false (olds ++ news) e) :: bs' } ρ' w' := by
    intro base sCap co hroom hol hor hfc hsub
    have hrun := run_app_grow (ty := ty) hT ht rfl hy hux (hlen w) hroom hc1 hc2 hn1d hfc
    have hge := grownCap_ge w (n + (m + 1)) sCap e
    have hzs : y.zero.cells.size = y.size := (hT e y hy).2.2.2.1
    have hcol : co.length = n * y.size := by
      have := hor.1; simp at this; omega
    have hcnl : cn.length = (m + 1) * y.size := by
      have := hn3.1; simp at this; omega
    generalize hZ : Builtin.zeroCells y.zero.cells (grownCap w (n + (m + 1)) sCap e - (n + (m + 1))) = Z at hrun
    have hZs : Z.size = (grownCap w (n + (m + 1)) sCap e - (n + (m + 1))) * y.size := by rw [← hZ, zeroCells_size, hzs]
    generalize hg : grownCap w (n + (m + 1)) sCap e = G at hrun hge hZs
    have htot : (co.toArray ++ cn.toArray ++ Z).size = G * y.size := by
      simp only [Array.size_append, List.size_toArray, hcol, hcnl, hZs]
      rw [← Nat.add_mul, ← Nat.add_mul]; congr 1; omega
    have hH2 : HRel B ρ bs' w.drew := (hH.sub hsub).drew
    have hpost := post_rowT (H := { next := H.next, bs := bs' }) hH2 (fun q h1 h2 => hf q h1 h2) false (olds ++ news) (co.toArray ++ cn.toArray ++ Z) e
      (by simp only [List.length_append, hol, hnl, htot]; rw [← Nat.add_mul]; exact Nat.mul_le_mul_right _ (by omega))
      (fun h => by cases h)
      (fun q u hq => by
        rw [List.getElem?_append] at hq
        have hsz1 : q < (co.toArray ++ cn.toArray).size → (co.toArray ++ cn.toArray ++ Z)[q]? = (co.toArray ++ cn.toArray)[q]? := fun hlt => by
          rw [Array.getElem?_append_left hlt]
        split at hq
        · rename_i hlt
          obtain ⟨u', hu', hr'⟩ := hor.get hq
          refine ⟨u', ?_, hr'⟩
          rw [hsz1 (by simp; omega), Array.getElem?_append_left (by simp; omega)]
          exact hu'
        · rename_i hlt
          obtain ⟨u', hu', hr'⟩ := hn3.get hq
          refine ⟨u', ?_, hr'⟩
          have hq' : q - olds.length < cn.length := by
            have := (List.getElem?_eq_some_iff.1 (by simpa using hu')).1
            exact this
          rw [hsz1 (by simp; omega), Array.getElem?_append_right (by simp; omega)]
          simpa [hcol, hol] using hu')
    refine ⟨bmapAt ρ H.next w.heap.size (co.toArray ++ cn.toArray ++ Z).size, _, _, hrun, ?_, ?_⟩
    · have := VRel.slice (ρ := bmapAt ρ H.next w.heap.size (co.toArray ++ cn.toArray ++ Z).size) (off := 0) (len := n + (m + 1)) (sz := 1) (cap := G) (bmapAt_self ρ H.next w.heap.size _) hge (by rw [htot, hy1]; omega)
      simpa using this
    · exact ⟨hpost.ext, hpost.out, hpost.rel, (Below.refl B w).drew.trans hpost.below⟩
  -- the destination
  unfold dstRow at hdst
  split at hdst
  · cases hdst
    cases hs
    exact grow none 0 [] (by omega) (by simp) ⟨rfl, fun q u u' hq => by simp at hq⟩ (by simp [Builtin.firstCells]) (fun q k hk => hk)
  · rename_i i n' sz'
    split at hdst
    · rename_i cs ty' hi
      split at hdst
      · rename_i hsz2
        simp only [Bool.and_eq_true, Nat.beq_eq] at hsz2
        obtain ⟨hsz2, hte⟩ := hsz2
        subst hsz2
        subst hte
        simp only [Option.map_eq_some_iff, Prod.mk.injEq] at hdst
        obtain ⟨l, hl, rfl, rfl, rfl⟩ := hdst
        cases hs with
        | slice hρi hli hti =>
          rename_i b o tot cap
          have hol := (takeCells_spec _ _ _ _ hl).1
          by_cases hroom : n' + (m + 1) ≤ cap
          · -- in place
            obtain ⟨z, hz, g0, g3, ccs, g1, g2, g4, g5, g6⟩ := hH.blk i _ hi
            rw [hρi] at hz; cases hz
            simp only at g0 g3 g1 g2 g4
            subst g0
            have hcnl : cn.length = (m + 1) * y.size := by
              have := hn3.1; simp at this; omega
            rw [hy1, Nat.mul_one] at hcnl hnl
            have hfit : n' * y.size + cn.length ≤ ccs.size := by rw [hy1]; omega
            have hst := run_storeCells_cells (P := P) b (n' * y.size) cn 0 w
              (fun q hq => by
                simp only [World.cell?, g1, Nat.add_zero]
                have : n' * y.size + q < ccs.size := by omega
                simp [Array.getElem?_eq_getElem this])
              (fun q hq => by
                simp only [World.frozen?, g1]
                simp)
              (fun u hu => by
                obtain ⟨q, hq⟩ := List.getElem?_of_mem hu
                have hq' : q < news.length := by rw [hnl, ← hcnl]; exact (List.getElem?_eq_some_iff.1 hq).1
                exact cellV_rel (hn3.2 q _ _ (List.getElem?_eq_getElem hq') (by simpa using hq)) (List.all_eq_true.1 hc3 _ (List.getElem_mem hq')))
            simp only [Nat.add_zero] at hst
            have hrun := run_app_room (ty := ty) (a := ⟨b, 0, none⟩) (sCap := cap) hT ht rfl hy hux (hlen w) hroom hn1 (by rw [addr_add, Nat.zero_add]; exact hst)
            obtain ⟨s1, s2, s3, _⟩ := setCells_heap cn b (n' * y.size) w ccs ty' (0, 0) g1
            have hhand := hH.hand (n := H.next) (w' := w.setCells b (n' * y.size) cn) (k' := .tcells false (l ++ news) ty') (y := (b, 0, tot)) hi rfl rfl hρi rfl (hf _ (Nat.le_refl _) (Nat.lt_succ_self _)) (by omega) s2 ?_
            · refine ⟨fun q => if q = H.next then some (b, 0, tot) else ρ q, _, _, hrun, ?_, hhand.1, fun q hq => ?_, hhand.2, below_setCells g1 g3⟩
              · have := VRel.slice (ρ := fun q => if q = H.next then some (b, 0, tot) else ρ q) (i := H.next) (b := b) (o := 0) (tot := tot) (off := 0) (len := n' + (m + 1)) (sz := 1) (cap := cap) (by simp) hroom (by omega)
                simpa using this
              · have hq' : q < H.next ∨ H.next + 1 ≤ q := hq
                have : ¬ q = H.next := by omega
                simp [this]
            · refine ⟨rfl, g3, _, s1, ?_, ?_, ?_, fun h => by cases h⟩
              · intro q u hq
                have hext : Ext ρ (fun j => if j = H.next then some (b, 0, tot) else ρ j) := by
                  intro j z hz
                  by_cases ej : j = H.next
                  · subst ej; rw [hf _ (Nat.le_refl _) (Nat.lt_succ_self _)] at hz; cases hz
                  · simpa [ej] using hz
                rw [List.getElem?_append] at hq
                split at hq
                · rename_i hlt
                  rw [(takeCells_spec _ _ _ _ hl).2 q (by omega)] at hq
                  obtain ⟨u', hu', hr'⟩ := g2 _ _ hq
                  refine ⟨u', ?_, hr'.ext hext⟩
                  rw [List.getElem?_toArray, putCells_get cn ccs.toList _ _ (by simp; omega), if_neg (by rw [hy1]; omega)]
                  simpa using hu'
                · rename_i hlt
                  obtain ⟨u', hu', hr'⟩ := hn3.get hq
                  have hq' : q - l.length < cn.length := (List.getElem?_eq_some_iff.1 (by simpa using hu')).1
                  refine ⟨u', ?_, hr'.ext hext⟩
                  rw [List.getElem?_toArray, putCells_get cn ccs.toList _ _ (by simp; omega), if_pos (by rw [hy1]; omega)]
                  rw [show q - n' * y.size = q - l.length by rw [hy1]; omega]
                  simpa using hu'
              · simp only [List.size_toArray, putCells_length, Array.length_toList]; exact g4
              · simp only [List.size_toArray, putCells_length, Array.length_toList, List.length_append, hol, hnl]
                rw [hy1] at hfit
                omega
          · -- a new row
            obtain ⟨co, h1, h2, h3⟩ := run_cellsT (P := P) hH.drew hi hρi hl
            exact grow (some ⟨b, o + 0, none⟩) cap co hroom (by rw [hy1, Nat.mul_one]; exact hol) h3 (by simpa [Builtin.firstCells, hy1] using h1) (fun q k hk => by
              rw [lookB_dropB] at hk
              split at hk
              · cases hk
              · exact hk)
      · cases hdst
    · cases hdst
  · cases hdst

noncomputable def aAppendT (T : TypeId → Option TI) (H : AH) (t tx : TypeId) (s x : Value) : Option (Value × AH) :=
  match T t with
  | some { desc := .slice e, .. } =>
    match T e with
    | some y =>
      match y.desc with
      | .int .u8 =>
        if Nat.beq y.size 1 then
          match dstRow H.bs e s with
          | some (olds, n, bs') =>
            match x with
            | .string str => match T tx, str.data.toList.length with
              | some { desc := .string, .. }, m + 1 =>
                if Nat.ble ((n + (m + 1)) * y.bytes) 1000000000000 && Nat.ble (n + (m + 1)) 1000000000000 then
                  some (.slice (some ⟨H.next, 0, none⟩) (n + (m + 1)) 1, { next := H.next + 1, bs := (H.next, .tcells false (olds ++ strCells str) e) :: bs' })
                else none
              | _, _ => none
            | _ => match Nat.beq t tx, sliceLen x, srcCells H.bs x y.size with
              | true, some (m + 1), some news =>
                if Nat.ble ((n + (m + 1)) * y.bytes) 1000000000000 && Nat.ble (n + (m + 1)) 1000000000000 && news.all cellV then
                  some (.slice (some ⟨H.next, 0, none⟩) (n + (m + 1)) 1, { next := H.next + 1, bs := (H.next, .tcells false (olds ++ news) e) :: bs' })
                else none
              | _, _, _ => none
          | none => none
        else none
      | _ => none
    | none => none
  | _ => none

theorem aAppendT_next {T : TypeId → Option TI} {H : AH} {t tx : TypeId} {s x : Value} {r : Value × AH} (h : aAppendT T H t tx s x = some r) : r.2.next = H.next + 1 := by
  unfold aAppendT at h
  repeat (first | (cases h; rfl) | split at h | cases h)

theorem aAppendT_sound {P : Program} {T : TypeId → Option TI} (hT : TOk P T) {B : Nat} {ρ : BMap} {H H' : AH} {w : World} {t tx ty : TypeId} {s x s' x' v : Value} (h : aAppendT T H t tx s x = some (v, H'))
    (hH : HRel B ρ H.bs w) (hf : Free ρ H.next H'.next) (hs : VRel ρ s s') (hx : VRel ρ x x') :
    ∃ ρ' w' u, (Builtin.append_ #[t, tx] ty #[s', x']).run P w = .ok u w' ∧ VRel ρ' v u ∧ Post B ρ H w H' ρ' w' := by
  have hnx : H'.next = H.next + 1 := aAppendT_next h
  rw [hnx] at hf
  unfold aAppendT at h
  split at h
  · rename_i _ _ _ e _ ht
    split at h
    · rename_i y hy
      split at h
      · split at h
        · rename_i hy1
          have hy1 : y.size = 1 := Nat.eq_of_beq_eq_true hy1
          split at h
          · rename_i olds n bs' hdst
            split at h
            · rename_i str
              split at h
              · rename_i m htx hm0
                split at h
                · rename_i hc
                  simp only [Bool.and_eq_true, Nat.ble_eq] at hc
                  obtain ⟨hc1, hc2⟩ := hc
                  cases h
                  have hux : P.underlying tx = some .string := hT.under htx
                  cases hx
                  have hsz : str.size = str.data.toList.length := by rw [Array.length_toList]; rfl
                  have hm : str.size = m + 1 := by rw [hsz]; exact hm0
                  have hcl : (strCells str).length = (m + 1) * y.size := by
                    rw [hy1, Nat.mul_one]; simp only [strCells, List.length_map]; exact hm0
                  exact aAppendT_core hT ht hy (.inr hux) hy1 hdst hc1 hc2 (by
                    refine List.all_eq_true.2 fun a ha => ?_
                    unfold strCells at ha
                    obtain ⟨b, _, rfl⟩ := List.mem_map.1 ha
                    rfl) (fun w => by simp [Builtin.lenOf, hm]) (by rw [← hm]; exact firstCells_str y.size str w) (by rw [← hm]; exact firstCells_str y.size str w.drew) (strCells_rel ρ str) hcl hH hf hs
                · cases h
              · cases h
            · split at h
              · rename_i m news htt hxl hsrc
                have htt : t = tx := Nat.eq_of_beq_eq_true htt
                subst htt
                split at h
                · rename_i hc
                  simp only [Bool.and_eq_true, Nat.ble_eq] at hc
                  obtain ⟨⟨hc1, hc2⟩, hc3⟩ := hc
                  cases h
                  obtain ⟨bj, oo, capj, cn, rfl, hn1, hn1d, hn3, hnl⟩ := srcCells_sound (P := P) hH hx hsrc hxl
                  exact aAppendT_core hT ht hy (.inl ⟨e, hT.under ht⟩) hy1 hdst hc1 hc2 hc3 (fun w => by simp [Builtin.lenOf]) (by simpa [Builtin.firstCells] using hn1) (by simpa [Builtin.firstCells] using hn1d) hn3 hnl hH hf hs
                · cases h
              · cases h
          · cases h
        · cases h
      · cases h
    · cases h
  · cases h

/-! ### unsafe -/
/-- Bytes out of cells. -/
noncomputable def byteL : List Value → Option (List UInt8)
  | [] => some []
  | .int .u8 n :: r => if 0 ≤ n ∧ n < 256 then (byteL r).map (n.toNat.toUInt8 :: ·) else none
  | _ => none

theorem byteL_spec : ∀ (cs : List Value) (l : List UInt8), byteL cs = some l → l.length = cs.length ∧ ∀ (j : Nat) (x : UInt8), l[j]? = some x → cs[j]? = some (.int .u8 x.toNat)
  | [], l, h => by cases h; exact ⟨rfl, fun j x hx => by simp at hx⟩
  | c :: r, l, h => by
    unfold byteL at h
    split at h
    · rename_i e; cases e
    · rename_i n r' e
      cases e
      split at h
      · rename_i hn
        simp only [Option.map_eq_some_iff] at h
        obtain ⟨l', hl', rfl⟩ := h
        obtain ⟨h1, h2⟩ := byteL_spec r l' hl'
        refine ⟨by simp [h1], fun j x hx => ?_⟩
        cases j with
        | zero =>
          simp only [List.getElem?_cons_zero, Option.some.injEq] at hx
          subst hx
          have e1 : (n.toNat.toUInt8.toNat : Int) = n := by
            rw [show n.toNat.toUInt8.toNat = n.toNat % 256 from UInt8.toNat_ofNat']
            omega
          rw [List.getElem?_cons_zero, e1]
        | succ j => simpa using h2 j x (by simpa using hx)
      · cases h
    · cases h

noncomputable def aUStr (T : TypeId → Option TI) (H : AH) (pt : TypeId) (p n : Value) : Option (Value × AH) :=
  match p, n with
  | .pointer none, .int .i64 0 => some (.string .empty, H)
  | .pointer (some ⟨i, 0, none⟩), .int .i64 (.ofNat (m + 1)) =>
    match lookB H.bs i, T pt with
    | some (.tcells false cs ty), some { desc := .pointer e, .. } =>
      match T e, takeCells cs 0 (m + 1) with
      | some y, some l => match byteL l with
        | some bl => if Nat.beq e ty && Nat.beq y.size 1 && Nat.ble (m + 1) 1000000000000 then some (.string ⟨bl.toArray⟩, { H with bs := dropB H.bs i }) else none
        | none => none
      | _, _ => none
    | _, _ => none
  | _, _ => none

theorem aUStr_next {T : TypeId → Option TI} {H : AH} {pt : TypeId} {p n : Value} {r : Value × AH} (h : aUStr T H pt p n = some r) : r.2.next = H.next := by
  unfold aUStr at h
  repeat (first | (cases h; rfl) | split at h | cases h)

theorem aUStr_sound {P : Program} {T : TypeId → Option TI} (hT : TOk P T) {B : Nat} {ρ : BMap} {H H' : AH} {w : World} {pt it ty : TypeId} {p n p' n' v : Value} (h : aUStr T H pt p n = some (v, H'))
    (hH : HRel B ρ H.bs w) (hp : VRel ρ p p') (hn : VRel ρ n n') :
    ∃ w' u, (Builtin.unsafeString_ #[pt, it] ty #[p', n']).run P w = .ok u w' ∧ VRel ρ v u ∧ Post B ρ H w H' ρ w' := by
  unfold aUStr at h
  split at h
  · cases h
    cases hp
    cases hn
    exact ⟨w, _, Lib.run_unsafeString_none (P := P) w pt it ty none, .string _, Post.same hH⟩
  · rename_i i m
    split at h
    · rename_i cs ty' _ _ _ e _ hi hpt
      split at h
      · rename_i y l hy hl
        split at h
        · rename_i bl hbl
          split at h
          · rename_i hc
            simp only [Bool.and_eq_true, Nat.beq_eq, Nat.ble_eq] at hc
            obtain ⟨⟨he, hy1⟩, hm⟩ := hc
            subst he
            cases h
            cases hn
            cases hp with
            | ptr hρ =>
              rename_i b o tot
              obtain ⟨z, hz, g0, g3, ccs, g1, g2, g4, g5, g6⟩ := hH.blk i _ hi
              rw [hρ] at hz; cases hz
              simp only at g0 g3 g1 g2 g4
              subst g0
              obtain ⟨k1, k2⟩ := takeCells_spec _ _ _ _ hl
              obtain ⟨q1, q2⟩ := byteL_spec _ _ hbl
              have hbln : bl.length = m + 1 := q1.trans k1
              have hlt : m + 1 ≤ cs.length := by
                have e1 := k2 m (by omega)
                have e2 : l[m]? = some l[m] := List.getElem?_eq_getElem (by omega)
                rw [e2] at e1
                have := (List.getElem?_eq_some_iff.1 e1.symm).1
                omega
              have hce : P.cellsOf e = 1 := by
                obtain ⟨⟨i0, hi0, s1, _⟩, _⟩ := hT e y hy
                have : P.cellsOf e = i0.size := by simp [Program.cellsOf, hi0]
                rw [this, s1, hy1]
              have hrun := Lib.run_unsafeString_row (P := P) w pt it ty e (hT.under hpt) hce b ccs.size (by simp [World.shape?, g1]) bl (by intro e0; rw [e0] at hbln; simp at hbln) (by omega) (by omega)
                (fun j x hx => by
                  rw [addr_add, Nat.zero_add]
                  have hj : j < m + 1 := by rw [← hbln]; exact (List.getElem?_eq_some_iff.1 hx).1
                  have e1 := q2 j x hx
                  rw [k2 j hj, Nat.zero_add] at e1
                  obtain ⟨u, hu, hr⟩ := g2 _ _ e1
                  cases hr
                  simp only [World.cell?]; rw [g1]; simpa using hu)
              rw [hbln] at hrun
              refine ⟨w.freeze ⟨b, 0, none⟩ (m + 1), .string ⟨bl.toArray⟩, hrun, .string _, ?_⟩
              have hb := Lib.below_freeze (Below.refl B w) (p := ⟨b, 0, none⟩) g3 (m + 1)
              refine ⟨Ext.refl ρ, fun _ _ => rfl, hH.gone hi rfl hρ ?_ ?_, hb⟩
              · unfold World.freeze
                split
                · exact Nat.le_refl _
                · simp
              · intro j hj
                unfold World.freeze
                split
                · rfl
                · simp only [Array.getElem?_modify]
                  rw [if_neg (fun e0 => hj e0.symm)]
          · cases h
        · cases h
      · cases h
    · cases h
  · cases h

/-- A pointer to unsafe.Pointer, and back. -/
noncomputable def aConvU (T : TypeId → Option TI) (H : AH) (s d : TypeId) (x : Value) : Option Value :=
  match x with
  | .pointer (some ⟨i, off, none⟩) =>
    match lookB H.bs i, T s, T d with
    | some (.tcells true cs ty), some ts, some td =>
      match ts.desc, td.desc with
      | .pointer t, .unsafePointer => match T t with
        | some y => if !(Nat.beq y.size 0) && Nat.blt off cs.length then some x else none
        | none => none
      | .unsafePointer, .pointer u => match T u with
        | some y => if y.ex.lies ty cs.length off then some x else none
        | none => none
      | _, _ => none
    | _, _, _ => none
  | _ => none

theorem aConvU_sound {P : Program} {T : TypeId → Option TI} (hT : TOk P T) {B : Nat} {ρ : BMap} {H : AH} {w : World} {s d : TypeId} {x x' v : Value} (h : aConvU T H s d x = some v) (hH : HRel B ρ H.bs w) (hx : VRel ρ x x') :
    (convert s d x').run P w = .ok x' w ∧ VRel ρ v x' := by
  unfold aConvU at h
  split at h
  · rename_i i off
    split at h
    · rename_i cs ty ts td hi hs hd
      cases hx with
      | ptr hρ =>
        rename_i b o tot
        obtain ⟨z, hz, g0, g3, ccs, g1, g2, g4, g5, g6⟩ := hH.blk i _ hi
        rw [hρ] at hz; cases hz
        simp only at g0 g3 g1 g2 g4
        subst g0
        have hcl := g6 rfl
        have hus := hT.under hs
        have hud := hT.under hd
        have hsh : w.shape? b = some (ty, ccs.size) := by simp [World.shape?, g1]
        split at h
        · rename_i t hts htd
          split at h
          · rename_i y hy
            split at h
            · rename_i hc
              simp only [Bool.and_eq_true, Bool.not_eq_true', Nat.blt_eq] at hc
              obtain ⟨hc1, hc2⟩ := hc
              cases h
              obtain ⟨⟨j, hj, s1, _⟩, _⟩ := hT t y hy
              refine ⟨Lib.run_to_unsafe w ⟨b, 0 + off, none⟩ (by rw [hus, hts]) (by rw [hud, htd]) hj ?_ hsh (by show 0 + off < ccs.size; omega), .ptr hρ⟩
              rw [s1]
              intro e0
              rw [e0] at hc1; cases hc1
            · cases h
          · cases h
        · rename_i u hts htd
          split at h
          · rename_i y hy
            split at h
            · rename_i hc
              cases h
              obtain ⟨⟨j, hj, s1, _⟩, _⟩ := hT u y hy
              have hl := (hT u y hy).2.2.2.2.2.2.2.2.2.1 _ _ _ hc
              rw [hcl] at hl
              exact ⟨Lib.run_from_unsafe w ⟨b, 0 + off, none⟩ (by rw [hus, hts]) (by rw [hud, htd]) hj hsh (by show liesAt P P.depth ty _ (0 + off) u 1 = true; rw [Nat.zero_add]; exact hl), .ptr hρ⟩
            · cases h
          · cases h
        · cases h
    · cases h
  · cases h

/-- The address of the first byte of a slice. -/
noncomputable def aSData : Value → Option Value
  | .slice none 0 0 => some (.pointer none)
  | .slice (some ⟨i, off, none⟩) (_ + 1) _ => some (.pointer (some ⟨i, off, none⟩))
  | _ => none

/-! ### make and copy of bytes -/
noncomputable def aMakeT (T : TypeId → Option TI) (H : AH) (t : TypeId) (l c : Value) : Option (Value × AH) :=
  match natV l, natV c, T t with
  | some n, some m, some { desc := .slice e, .. } =>
    match T e with
    | some y => match y.desc with
      | .int .u8 => if Nat.ble n m && Nat.ble m 65536 && Nat.ble (y.bytes * m) 1000000000 && Nat.beq y.size 1 then
          some (.slice (some ⟨H.next, 0, none⟩) n 1, pushB H (.tcells false ((Array.range (m * y.size)).map ((if m * y.size = 0 then #[] else y.zero.cells)[· % (if m * y.size = 0 then #[] else y.zero.cells).size]!)).toList e)) else none
      | _ => none
    | none => none
  | _, _, _ => none

theorem aMakeT_next {T : TypeId → Option TI} {H : AH} {t : TypeId} {l c : Value} {r : Value × AH} (h : aMakeT T H t l c = some r) : r.2.next = H.next + 1 := by
  unfold aMakeT at h
  repeat (first | (cases h; rfl) | split at h | cases h)

theorem aMakeT_nat {T : TypeId → Option TI} {H : AH} {t : TypeId} {l c : Value} {r : Value × AH} (h : aMakeT T H t l c = some r) : (∃ n, natV l = some n) ∧ ∃ n, natV c = some n := by
  unfold aMakeT at h
  split at h
  · exact ⟨⟨_, ‹_›⟩, ⟨_, ‹_›⟩⟩
  · cases h

theorem aMakeT_sound {P : Program} {T : TypeId → Option TI} (hT : TOk P T) {B : Nat} {ρ : BMap} {H H' : AH} {w : World} {t : TypeId} {l c v : Value} (h : aMakeT T H t l c = some (v, H')) (hH : HRel B ρ H.bs w) (hf : Free ρ H.next (H.next + 1)) :
    Runs P B ρ H w (do pure (.value (← Instr.makeSlice t l c))) v H' := by
  unfold aMakeT at h
  split at h
  · rename_i n m _ _ _ e _ hn hm ht
    obtain ⟨k1, rfl⟩ := natV_spec hn
    obtain ⟨k2, rfl⟩ := natV_spec hm
    split at h
    · rename_i y hy
      split at h
      · split at h
        · rename_i hc
          simp only [Bool.and_eq_true, Nat.ble_eq, Nat.beq_eq] at hc
          obtain ⟨⟨⟨h1, h2⟩, h3⟩, h4⟩ := hc
          cases h
          have hz : ARel ρ (if m * y.size = 0 then #[] else y.zero.cells) (if m * y.size = 0 then #[] else y.zero.cells) := by
            split
            · exact ⟨rfl, fun j a b ha => by simp at ha⟩
            · exact arel_refl_zero hT hy ρ
          have harr := arel_rep hz (m * y.size)
          obtain ⟨hrow, _⟩ := run_row (P := P) hH hf harr.list e
          have hpost := post_rowT hH hf false _ _ e (by simp) (fun h => by cases h) (fun j v hv => harr.list.get hv)
          obtain ⟨⟨i, hi, i1, i2, i3⟩, _⟩ := hT e y hy
          refine ⟨bmapAt ρ H.next w.heap.size ((Array.range (m * y.size)).map ((if m * y.size = 0 then #[] else y.zero.cells)[· % (if m * y.size = 0 then #[] else y.zero.cells).size]!)).size, _, _, ?_, .inl ⟨.slice (some ⟨w.heap.size, 0, none⟩) n m, rfl, ?_⟩, hpost⟩
          · have c0 : ¬ ((m : Int) < 0) := by omega
            have c1 : ¬ ((281474976710656 : Int) < (y.bytes : Int) * (m : Int)) := by
              have : ((y.bytes * m : Nat) : Int) ≤ 1000000000 := Int.ofNat_le.2 h3
              rw [Int.natCast_mul] at this
              omega
            have c2 : ¬ ((n : Int) < 0) := by omega
            have c3 : ¬ ((m : Int) < (n : Int)) := by omega
            have hti : (typeInfo e).run P w = .ok i w := by simp [typeInfo, hi]
            simp only [Instr.makeSlice, Sem.run_bind, run_underlying (hT.under ht) w, Result.andThen_ok, asInt, asIntOf, Sem.run_pure, hti, i2, wrap_small m h2, wrap_small n (by omega)]
            simp only [gt_iff_lt, show ((2 : Int) ^ 48) = 281474976710656 from rfl, c0, c1, c2, c3, decide_false, Bool.or_false, Bool.false_eq_true, if_false, Sem.run_bind, run_askRoom, Result.andThen_ok, hT.size hy w, Int.toNat_natCast]
            by_cases h0 : m * y.size = 0
            · simp only [h0, if_true] at hrow ⊢
              simp only [Sem.run_bind, Sem.run_pure, Result.andThen_ok, hrow]
            · simp only [h0, if_false] at hrow ⊢
              simp only [Sem.run_bind, hT.zeroV hy w, Sem.run_pure, Result.andThen_ok, hrow]
          · have := VRel.slice (ρ := bmapAt ρ H.next w.heap.size ((Array.range (m * y.size)).map ((if m * y.size = 0 then #[] else y.zero.cells)[· % (if m * y.size = 0 then #[] else y.zero.cells).size]!)).size) (off := 0) (len := n) (sz := 1) (cap := m) (bmapAt_self ρ H.next w.heap.size _) h1 (by simp [h4])
            simpa using this
        · cases h
      · cases h
    · cases h
  · cases h

noncomputable def aCopyS (T : TypeId → Option TI) (H : AH) (t tx : TypeId) (d x : Value) : Option (Value × AH) :=
  match T t, T tx, d, x with
  | some { desc := .slice e, .. }, some { desc := .string, .. }, .slice (some ⟨i, off, none⟩) dl _, .string str =>
    match T e, str.data.toList.length with
    | some y, m + 1 => if Nat.ble (m + 1) dl && Nat.beq y.size 1 then
        match lookB H.bs i with
        | some (.tcells ex cs ty) => if Nat.ble (off + (strCells str).length) cs.length then some (.int .i64 (m + 1 : Nat), { H with bs := setB H.bs i (.tcells ex (putF cs off (strCells str)) ty) }) else none
        | some (.cells false cs) => if Nat.ble (off + (strCells str).length) cs.length then some (.int .i64 (m + 1 : Nat), { H with bs := setB H.bs i (.cells false (putF cs off (strCells str))) }) else none
        | _ => none
      else none
    | _, _ => none
  | _, _, _, _ => none

theorem aCopyS_next {T : TypeId → Option TI} {H : AH} {t tx : TypeId} {d x : Value} {r : Value × AH} (h : aCopyS T H t tx d x = some r) : r.2.next = H.next := by
  unfold aCopyS at h
  repeat (first | (cases h; rfl) | split at h | cases h)

theorem strCells_all (str : ByteArray) : (strCells str).all cellV = true := by
  refine List.all_eq_true.2 fun a ha => ?_
  unfold strCells at ha
  obtain ⟨b, _, rfl⟩ := List.mem_map.1 ha
  rfl

theorem aCopyS_sound {P : Program} {T : TypeId → Option TI} (hT : TOk P T) {B : Nat} {ρ : BMap} {H H' : AH} {w : World} {t tx ty : TypeId} {d x d' x' v : Value} (h : aCopyS T H t tx d x = some (v, H'))
    (hH : HRel B ρ H.bs w) (hd : VRel ρ d d') (hx : VRel ρ x x') :
    ∃ w', (Builtin.copy_ #[t, tx] ty #[d', x']).run P w = .ok v w' ∧ VRel ρ v v ∧ Post B ρ H w H' ρ w' := by
  unfold aCopyS at h
  split at h
  · rename_i _ _ _ e _ _ _ _ _ i off dl _ str ht _
    have hu := run_underlying (hT.under ht) w
    cases hx
    cases hd with
    | slice hρ hle hto =>
      rename_i b o tot cap
      split at h
      · rename_i y m hy hm
        split at h
        · rename_i hc
          simp only [Bool.and_eq_true, Nat.ble_eq, Nat.beq_eq] at hc
          obtain ⟨hc1, hc2⟩ := hc
          have hsz : str.size = m + 1 := by
            have h0 : str.data.toList.length = m + 1 := hm
            rw [← h0, Array.length_toList]; rfl
          have hfc := firstCells_str (P := P) y.size str w
          have fin : ∀ w', (storeCells ⟨b, o + off, none⟩ (strCells str)).run P w = .ok () w' → (Builtin.copy_ #[t, tx] ty #[.slice (some ⟨b, o + off, none⟩) dl cap, .string str]).run P w = .ok (.int .i64 (m + 1 : Nat)) w' := by
            intro w' hst
            rw [hsz] at hfc
            have hlen : (Builtin.lenOf (.string str)).run P w = .ok (m + 1) w := by simp [Builtin.lenOf, hsz]
            have hmin' : min (m + 1) dl = m + 1 := Nat.min_eq_left hc1
            generalize Value.string str = X at hfc hlen
            simp [Builtin.copy_, hu, hlen, hmin', hT.size hy w, hfc, hst, goInt]
          split at h
          · rename_i ex cs ty0 hi
            split at h
            · rename_i hc3
              rw [Nat.ble_eq] at hc3
              rw [putF_eq hc3] at h
              cases h
              obtain ⟨w', h1, h2⟩ := run_storesT (P := P) hH hi hρ (strCells_rel ρ str) (strCells_all str) hc3
              exact ⟨w', fin w' (by simpa using h1), .int _ _, h2⟩
            · cases h
          · rename_i cs hi
            split at h
            · rename_i hc3
              rw [Nat.ble_eq] at hc3
              rw [putF_eq hc3] at h
              cases h
              obtain ⟨w', h1, h2⟩ := run_stores (P := P) hH hi hρ (strCells_rel ρ str) (strCells_all str) hc3
              exact ⟨w', fin w' (by simpa using h1), .int _ _, h2⟩
            · cases h
          · cases h
        · cases h
      · cases h
  · cases h

/-- clear. -/
noncomputable def aClear (T : TypeId → Option TI) (H : AH) (t : TypeId) (x : Value) : Option AH :=
  match T t, x with
  | some { desc := .slice _, .. }, .slice none 0 0 => some H
  | some { desc := .slice _, .. }, .slice (some _) 0 _ => some H
  | some { desc := .slice e, .. }, .slice (some ⟨i, off, none⟩) (n + 1) sz =>
    match T e, lookB H.bs i with
    | some y, some (.cells false cs) =>
      if Nat.beq sz y.size && Nat.ble (off + (Builtin.zeroCells y.zero.cells (n + 1)).toList.length) cs.length && (Builtin.zeroCells y.zero.cells (n + 1)).toList.all cellV then
        some { H with bs := setB H.bs i (.cells false (putCells cs off (Builtin.zeroCells y.zero.cells (n + 1)).toList)) } else none
    | _, _ => none
  | some { desc := .map _ _, .. }, .map none => some H
  | some { desc := .map _ _, .. }, .map (some r) =>
    match lookB H.bs r with
    | some (.amap false _) => some { H with bs := setB H.bs r (.amap false []) }
    | _ => none
  | _, _ => none

theorem aClear_next {T : TypeId → Option TI} {H H' : AH} {t : TypeId} {x : Value} (h : aClear T H t x = some H') : H'.next = H.next := by
  unfold aClear at h
  repeat (first | (cases h; rfl) | split at h | cases h)

theorem aClear_sound {P : Program} {T : TypeId → Option TI} (hT : TOk P T) {B : Nat} {ρ : BMap} {H H' : AH} {w : World} {t ty : TypeId} {x x' : Value} (h : aClear T H t x = some H')
    (hH : HRel B ρ H.bs w) (hx : VRel ρ x x') :
    ∃ w', (Builtin.clear_ #[t] ty #[x']).run P w = .ok (.tuple #[]) w' ∧ Post B ρ H w H' ρ w' := by
  unfold aClear at h
  split at h
  · rename_i ht
    cases h
    cases hx
    refine ⟨w, ?_, Post.same hH⟩
    simp [Builtin.clear_, run_underlying (hT.under ht)]
  · rename_i ht
    cases h
    obtain ⟨a, cap, rfl, _⟩ := slice_le hx rfl
    refine ⟨w, ?_, Post.same hH⟩
    cases a <;> simp [Builtin.clear_, run_underlying (hT.under ht)]
  · rename_i e _ i off n sz ht
    split at h
    · rename_i y cs hy hi
      split at h
      · rename_i hc
        simp only [Bool.and_eq_true, Nat.beq_eq, Nat.ble_eq] at hc
        obtain ⟨⟨_, hc1⟩, hc2⟩ := hc
        cases h
        cases hx with
        | slice hρ hl htot =>
          rename_i b o tot cap
          have hr : LRel ρ (Builtin.zeroCells y.zero.cells (n + 1)).toList (Builtin.zeroCells y.zero.cells (n + 1)) := by
            refine ⟨by simp, fun j v v' hv hv' => ?_⟩
            have hv1 : (Builtin.zeroCells y.zero.cells (n + 1))[j]? = some v := by simpa using hv
            exact (arel_rep (arel_refl_zero hT hy ρ) ((n + 1) * y.zero.cells.size)).2 j v v' hv1 hv'
          obtain ⟨w', h1, h2⟩ := run_stores (P := P) hH hi hρ hr hc2 hc1
          refine ⟨w', ?_, h2⟩
          simp [Builtin.clear_, run_underlying (hT.under ht), hT.zeroV hy w, h1]
      · cases h
    · cases h
  · rename_i ht
    cases h
    cases hx
    refine ⟨w, ?_, Post.same hH⟩
    simp [Builtin.clear_, run_underlying (hT.under ht)]
  · rename_i r ht
    split at h
    · rename_i es hl
      cases h
      cases hx with
      | mptr hρ =>
        rename_i b o tot
        obtain ⟨x, hx, hr⟩ := hH.blk r _ hl
        rw [hρ] at hx; cases hx
        have hBb : B ≤ b := by obtain ⟨_, _, _, _, _, h4⟩ := hr; simpa using h4
        obtain ⟨ces, cl, h1, h2⟩ := brel_es hr
        simp only at h1
        refine ⟨{ w with heap := w.heap.setIfInBounds b (.map #[] cl) }, ?_, Ext.refl ρ, fun _ _ => rfl, ?_, below_setObj w b _ hBb⟩
        · simp only [Builtin.clear_, Sem.run_bind, run_underlying (hT.under ht) w, Result.andThen_ok, Sem.run_pure, List.getElem?_toArray, List.getElem?_cons_zero, MapKept.run_getObj_map h1, MapKept.run_setObj_map _ h1]
        · exact hH.change hl rfl rfl hρ (by simp) (fun j hj => setObj_other w b _ j hj) ⟨#[], cl, setObj_self w b _ _ h1, rfl, fun j k v hj => by simp at hj, by simpa using hBb⟩
    · cases h
  · cases h

/-- The operations on blocks that tell their type. -/
noncomputable def hOpT (T : TypeId → Option TI) (g : Operand → Option Value) (H : AH) (op : Op) : Option (Value × AH) :=
  match op with
  | .load t x => match g x with
    | some u => (aLoadT T H t u).map fun v => (v, H)
    | none => none
  | .store t x y => match g x, g y with
    | some u, some v => (aStoreT T H t u v).map fun H' => (undef, H')
    | _, _ => none
  | .convert s d x => match g x with
    | some u => (aConvU T H s d u).map fun v => (v, H)
    | none => none
  | .call { callee := .builtin .unsafeSliceData, args := ⟨[x]⟩, .. } => match g x with
    | some u => (aSData u).map fun v => (v, H)
    | none => none
  | .call { callee := .builtin .unsafeString, args := ⟨[x, y]⟩, argTypes := ⟨[t, _]⟩ } => match g x, g y with
    | some u, some v => aUStr T H t u v
    | _, _ => none
  | .call { callee := .builtin .clear, args := ⟨[x]⟩, argTypes := ⟨[t]⟩ } => match g x with
    | some u => (aClear T H t u).map fun H' => (.tuple #[], H')
    | none => none
  | .call { callee := .builtin .copy, args := ⟨[d, x]⟩, argTypes := ⟨[t, t']⟩ } => match g d, g x with
    | some u, some v => aCopyS T H t t' u v
    | _, _ => none
  | .call { callee := .value f, args := ⟨[x]⟩, argTypes := ⟨[t]⟩ } =>
    match g f, g x, T t with
    | some (.func (.func f') ⟨[]⟩ ⟨[]⟩), some v, some z => match z.ex.nat f' with
      | some 2 => some (v, H)
      | _ => match v, z.ex.mnz f' with
        | .int .i64 (.ofNat n), some e => if Nat.ble n 1000000000000 then some (.slice (some ⟨H.next, 0, none⟩) n 1, pushB H (.tcells false [] e)) else none
        | _, _ => none
    | _, _, _ => none
  | _ => none

theorem aStoreT_next {T : TypeId → Option TI} {H H' : AH} {t : TypeId} {x v : Value} (h : aStoreT T H t x v = some H') : H'.next = H.next := by
  unfold aStoreT at h
  repeat (first | (cases h; rfl) | split at h | cases h | dsimp only at h)

theorem hOpT_mono {T : TypeId → Option TI} {g : Operand → Option Value} {H H' : AH} {op : Op} {v : Value} (h : hOpT T g H op = some (v, H')) : H.next ≤ H'.next := by
  unfold hOpT at h
  split at h
  · split at h
    · simp only [Option.map_eq_some_iff] at h
      obtain ⟨_, _, h⟩ := h
      cases h; exact Nat.le_refl _
    · cases h
  · split at h
    · simp only [Option.map_eq_some_iff] at h
      obtain ⟨H2, h2, h⟩ := h
      cases h
      exact Nat.le_of_eq (aStoreT_next h2).symm
    · cases h
  · split at h
    · simp only [Option.map_eq_some_iff] at h
      obtain ⟨_, _, h⟩ := h
      cases h; exact Nat.le_refl _
    · cases h
  · split at h
    · simp only [Option.map_eq_some_iff] at h
      obtain ⟨_, _, h⟩ := h
      cases h; exact Nat.le_refl _
    · cases h
  · split at h
    · exact Nat.le_of_eq (aUStr_next h).symm
    · cases h
  · split at h
    · simp only [Option.map_eq_some_iff] at h
      obtain ⟨H2, h2, h⟩ := h
      cases h
      exact Nat.le_of_eq (aClear_next h2).symm
    · cases h
  · split at h
    · exact Nat.le_of_eq (aCopyS_next h).symm
    · cases h
  · split at h
    · split at h
      · cases h; exact Nat.le_refl _
      · split at h
        · split at h
          · cases h; exact Nat.le_succ _
          · cases h
        · cases h
    · cases h
  · cases h

theorem hOpT_sound {P : Program} {T : TypeId → Option TI} (hT : TOk P T) {g : Operand → Option Value} {H H' : AH} {o : Oper} {v : Value} (h : hOpT T g H o.op = some (v, H')) {B : Nat} {ρ : BMap} {w : World} {E : Operand → Value} (hE : ERel ρ g E)
    (hH : HRel B ρ H.bs w) (hf : Free ρ H.next H'.next) : Runs P B ρ H w (execOp E o) v H' := by
  unfold hOpT at h
  split at h
  · rename_i t x he
    rw [ex_load E he]
    split at h
    · rename_i u hu
      simp only [Option.map_eq_some_iff, Prod.mk.injEq] at h
      obtain ⟨v', hv, rfl, rfl⟩ := h
      obtain ⟨r, h1, h2⟩ := aLoadT_sound hT hv hH (hE _ _ hu)
      exact ⟨ρ, w, _, by simp only [Sem.run_bind, h1, Result.andThen_ok, Sem.run_pure], gives_val h2, Post.same hH⟩
    · cases h
  · rename_i t x y he
    rw [ex_store E he]
    split at h
    · rename_i u v0 hu hv0
      simp only [Option.map_eq_some_iff, Prod.mk.injEq] at h
      obtain ⟨H2, h2, rfl, rfl⟩ := h
      obtain ⟨w', h1, h3⟩ := aStoreT_sound (P := P) hT h2 hH (hE _ _ hu) (hE _ _ hv0)
      exact ⟨ρ, w', .skip, by simp only [Sem.run_bind, h1, Result.andThen_ok, Sem.run_pure], .inr ⟨rfl, rfl⟩, h3⟩
    · cases h
  · rename_i s d x he
    rw [ex_convert E he]
    split at h
    · rename_i u hu
      simp only [Option.map_eq_some_iff, Prod.mk.injEq] at h
      obtain ⟨v', hv, rfl, rfl⟩ := h
      obtain ⟨h1, h2⟩ := aConvU_sound (P := P) hT hv hH (hE _ _ hu)
      exact ⟨ρ, w, _, by simp only [Sem.run_bind, h1, Result.andThen_ok, Sem.run_pure], gives_val h2, Post.same hH⟩
    · cases h
  · rename_i x tys he
    rw [ex_call E he]
    split at h
    · rename_i u hu
      simp only [Option.map_eq_some_iff, Prod.mk.injEq] at h
      obtain ⟨v', hv, rfl, rfl⟩ := h
      have hr := hE _ _ hu
      generalize hEx : E x = ex at hr
      unfold aSData at hv
      split at hv
      · cases hv
        cases hr
        refine ⟨ρ, w, .value (.pointer none), ?_, gives_val .pnil, Post.same hH⟩
        have h1 := Lib.run_unsafeSliceData_nil (P := P) w tys o.type 0 0
        simp [resolve, invoke, builtin, hEx, h1]
      · cases hv
        cases hr with
        | slice hρ hl ht =>
          rename_i i off m sz b o' tot cap
          refine ⟨ρ, w, .value (.pointer (some ⟨b, o' + off, none⟩)), ?_, gives_val (.ptr hρ), Post.same hH⟩
          have h1 := Lib.run_unsafeSliceData_row (P := P) w tys o.type ⟨b, o' + off, none⟩ (m + 1) cap (by omega)
          simp [resolve, invoke, builtin, hEx, h1]
      · cases hv
    · cases h
  · rename_i x y t t' he
    rw [ex_call E he]
    split at h
    · rename_i u v0 hu hv0
      obtain ⟨w', r, h1, h2, h3⟩ := aUStr_sound (P := P) (it := t') (ty := o.type) hT h hH (hE _ _ hu) (hE _ _ hv0)
      refine ⟨ρ, w', .value r, ?_, gives_val h2, h3⟩
      simp [resolve, invoke, builtin, h1]
    · cases h
  · rename_i x t he
    rw [ex_call E he]
    split at h
    · rename_i u hu
      simp only [Option.map_eq_some_iff, Prod.mk.injEq] at h
      obtain ⟨H2, h2, rfl, rfl⟩ := h
      obtain ⟨w', h1, h3⟩ := aClear_sound (P := P) (ty := o.type) hT h2 hH (hE _ _ hu)
      refine ⟨ρ, w', .value (.tuple #[]), ?_, gives_val (.tuple rfl fun j x y hx => by simp at hx), h3⟩
      simp [resolve, invoke, builtin, h1]
    · cases h
  · rename_i d x t t' he
    rw [ex_call E he]
    split at h
    · rename_i u v0 hu hv0
      obtain ⟨w', h1, h2, h3⟩ := aCopyS_sound (P := P) (ty := o.type) hT h hH (hE _ _ hu) (hE _ _ hv0)
      refine ⟨ρ, w', .value v, ?_, gives_val h2, h3⟩
      simp [resolve, invoke, builtin, h1]
    · cases h
  · rename_i f x t he
    rw [ex_call E he]
    split at h
    · rename_i f' v1 z hf' hx hz
      have hrf := hE _ _ hf'
      have hrx := hE _ _ hx
      generalize hEf : E f = ef at hrf
      generalize hEx : E x = ex at hrx
      have hcf : ef = .func (.func f') #[] #[] := by
        cases hrf with
        | func hs _ => exact congrArg (Value.func (.func f') #[]) (Array.eq_empty_of_size_eq_zero (by simpa using hs.symm))
      split at h
      · rename_i hn
        cases h
        obtain ⟨fn, e, g1, g2, g3, g4, g5, g6⟩ := (hT t z hz).2.2.2.2.2.2.2.1 f' 2 hn
        cases g6
        have hrun : (callFunc f' #[ex]).run P w = .ok (.value ex) w := by
          rw [run_callFunc_extern g1 g2 g3 g4 g5, Lib.run_noEscape]; rfl
        refine ⟨ρ, w, .value ex, ?_, gives_val hrx, Post.same hH⟩
        simp [resolve, Deferred.ofValue, invoke, hEf, hcf, hEx, hrun]
      · split at h
        · rename_i n e hm
          split at h
          · rename_i hn
            cases h
            have hn' : n ≤ 1000000000000 := by simpa [Nat.ble_eq] using hn
            cases hrx
            obtain ⟨fn, ps, r, g1, g2, g3, g4, g5, g6⟩ := (hT t z hz).2.2.2.2.2.2.2.2.2.2.1 f' e hm
            obtain ⟨cs, hr1, hr2, _⟩ := Lib.run_makeNoZero (P := P) w ps r e g6 n (by omega)
            have hrun : (callFunc f' #[.int .i64 (n : Int)]).run P w = .ok (.value (.slice (some ⟨w.heap.size, 0, none⟩) n cs.size)) (w.drew.drew.alloc (.cells cs e)) := by
              rw [run_callFunc_extern g1 g2 g3 g4 g5, hr1]; rfl
            have hpost := post_rowT (H := H) hH.drew.drew hf false [] cs e (Nat.zero_le _) (fun h => by cases h) (fun j v hv => by simp at hv)
            refine ⟨bmapAt ρ H.next w.heap.size cs.size, _, .value (.slice (some ⟨w.heap.size, 0, none⟩) n cs.size), ?_, gives_val ?_, hpost.ext, hpost.out, hpost.rel, ((Below.refl B w).drew.drew).trans hpost.below⟩
            · have hEx' : E x = .int .i64 (n : Int) := hEx
              simp [resolve, Deferred.ofValue, invoke, hEf, hcf, hEx', hrun]
            · have := VRel.slice (ρ := bmapAt ρ H.next w.heap.size cs.size) (off := 0) (len := n) (sz := 1) (cap := cs.size) (bmapAt_self ρ H.next w.heap.size cs.size) hr2 (by omega)
              simpa using this
          · cases h
        · cases h
    · cases h
  · cases h

/-- An operation on memory: rows of bytes and some new blocks tell their type, until an operation asks for other blocks. -/
noncomputable def hOpU (T : TypeId → Option TI) (g : Operand → Option Value) (H : AH) (op : Op) : Option (Value × AH) :=
  match hOp T g H op with
  | some r => some r
  | none => match hOpT T g H op with
    | some r => some r
    | none => if hasR H.bs then hOp T g { H with bs := untR H.bs } op else none

noncomputable def hOpB (T : TypeId → Option TI) (g : Operand → Option Value) (H : AH) (op : Op) : Option (Value × AH) :=
  match op with
  | .alloc e => match T e with
    | some y => if y.ex.ub then some (.pointer (some ⟨H.next, 0, none⟩), pushB H (.tcells true y.zero.cells.toList e)) else hOp T g H (.alloc e)
    | none => none
  | .call { callee := .builtin .append, args := ⟨[s, x]⟩, argTypes := ⟨[t, t']⟩ } =>
    match g s, g x with
    | some u, some v => match aAppendT T H t t' u v with
      | some r => some r
      | none => hOpU T g H op
    | _, _ => none
  | .makeSlice t l c => match g l, g c with
    | some u, some v => match aMakeT T H t u v with
      | some r => some r
      | none => hOpU T g H op
    | _, _ => none
  | op => hOpU T g H op

theorem hOpU_mono {T : TypeId → Option TI} {g : Operand → Option Value} {H H' : AH} {op : Op} {v : Value} (h : hOpU T g H op = some (v, H')) : H.next ≤ H'.next := by
  unfold hOpU at h
  split at h
  · rename_i r hr
    cases h
    exact hOp_mono hr
  · split at h
    · rename_i r hr
      cases h
      exact hOpT_mono hr
    · split at h
      · exact hOp_mono (H := { H with bs := untR H.bs }) h
      · cases h

theorem hOpB_mono {T : TypeId → Option TI} {g : Operand → Option Value} {H H' : AH} {op : Op} {v : Value} (h : hOpB T g H op = some (v, H')) : H.next ≤ H'.next := by
  unfold hOpB at h
  split at h
  · split at h
    · split at h
      · cases h; exact Nat.le_succ _
      · exact hOp_mono h
    · cases h
  · split at h
    · split at h
      · rename_i r hr
        cases h
        have := aAppendT_next hr
        simp only at this
        omega
      · exact hOpU_mono h
    · cases h
  · split at h
    · split at h
      · rename_i r hr
        cases h
        have := aMakeT_next hr
        simp only at this
        omega
      · exact hOpU_mono h
    · cases h
  · exact hOpU_mono h

theorem hOpU_sound {P : Program} {T : TypeId → Option TI} (hT : TOk P T) {g : Operand → Option Value} {H H' : AH} {o : Oper} {v : Value} (h : hOpU T g H o.op = some (v, H')) {B : Nat} {ρ : BMap} {w : World} {E : Operand → Value} (hE : ERel ρ g E)
    (hH : HRel B ρ H.bs w) (hf : Free ρ H.next H'.next) : Runs P B ρ H w (execOp E o) v H' := by
  unfold hOpU at h
  split at h
  · rename_i r hr
    cases h
    exact hOp_sound hT hr hE hH hf
  · split at h
    · rename_i r hr
      cases h
      exact hOpT_sound hT hr hE hH hf
    · split at h
      · obtain ⟨ρ', w', n, h1, h2, h3⟩ := hOp_sound (P := P) hT (H := { H with bs := untR H.bs }) h hE hH.untR hf
        exact ⟨ρ', w', n, h1, h2, h3.ext, h3.out, h3.rel, h3.below⟩
      · cases h

theorem hOpB_sound {P : Program} {T : TypeId → Option TI} (hT : TOk P T) {g : Operand → Option Value} {H H' : AH} {o : Oper} {v : Value} (h : hOpB T g H o.op = some (v, H')) {B : Nat} {ρ : BMap} {w : World} {E : Operand → Value} (hE : ERel ρ g E)
    (hH : HRel B ρ H.bs w) (hf : Free ρ H.next H'.next) : Runs P B ρ H w (execOp E o) v H' := by
  unfold hOpB at h
  split at h
  · rename_i e he
    split at h
    · rename_i y hy
      split at h
      · cases h
        rw [ex_alloc E he]
        have hz := lrel_cells (closedV_rel ρ 6 _ (hT e y hy).2.2.1)
        have h2 := post_rowT hH hf true y.zero.cells.toList y.zero.cells e (by simp) (fun _ => by simp) (fun j v hv => hz.get hv)
        have h1 : (newRow e y.zero.cells).run P w = .ok ⟨w.heap.size, 0, none⟩ (w.alloc (.cells y.zero.cells e)) := by simp [newRow]
        refine ⟨_, _, .value (.pointer (some ⟨w.heap.size, 0, none⟩)), ?_, gives_val ?_, h2⟩
        · simp only [Instr.alloc, newVar, Sem.run_bind, hT.zeroV hy w, Result.andThen_ok, h1, Sem.run_pure]
        · have := VRel.ptr (ρ := bmapAt ρ H.next w.heap.size y.zero.cells.size) (off := 0) (bmapAt_self ρ H.next w.heap.size _)
          simpa using this
      · rw [← he] at h
        exact hOp_sound hT h hE hH hf
    · cases h
  · rename_i s x t t' he
    split at h
    · rename_i u v0 hu hv0
      split at h
      · rename_i r hr
        cases h
        rw [ex_call E he]
        obtain ⟨ρ', w', r, h1, h2, h3⟩ := aAppendT_sound (P := P) (ty := o.type) hT hr hH hf (hE _ _ hu) (hE _ _ hv0)
        refine ⟨ρ', w', .value r, ?_, gives_val h2, h3⟩
        simp [resolve, invoke, builtin, h1]
      · exact hOpU_sound hT h hE hH hf
    · cases h
  · rename_i t l c he
    split at h
    · rename_i u v0 hu hv0
      split at h
      · rename_i r hr
        cases h
        rw [ex_makeSlice E he]
        obtain ⟨⟨_, h1⟩, ⟨_, h2⟩⟩ := aMakeT_nat hr
        have e1 := natV_rel h1 (hE _ _ hu)
        have e2 := natV_rel h2 (hE _ _ hv0)
        simp only [e1, e2]
        have hn := aMakeT_next hr
        simp only at hn
        exact aMakeT_sound hT hr hH (by rw [← hn]; exact hf)
      · exact hOpU_sound hT h hE hH hf
    · cases h
  · exact hOpU_sound hT h hE hH hf

theorem hOpT_notDefer {T : TypeId → Option TI} {g : Operand → Option Value} {H : AH} {r : Value × AH} {c : Call} (h : hOpT T g H (.defer c) = some r) : False := by
  simp [hOpT] at h

theorem hOpB_notDefer {T : TypeId → Option TI} {g : Operand → Option Value} {H : AH} {op : Op} {r : Value × AH} (h : hOpB T g H op = some r) (c : Call) : op ≠ .defer c := by
  intro e; subst e
  simp only [hOpB, hOpU] at h
  split at h
  · rename_i hr; simp [hOp] at hr
  · split at h
    · rename_i hr; exact hOpT_notDefer hr
    · split at h
      · simp [hOp] at h
      · cases h

end Go.Proofs.Ytjginpeoblilpaa
