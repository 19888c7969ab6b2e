/-
  What is proved: nothing of the program. This text holds append, and the rest of the operations on memory.
-/
import Derived.Test.YtjginpeoblilpaaEvG
namespace Go.Proofs.Ytjginpeoblilpaa
open Go.RowKit
set_option linter.unusedSimpArgs false
set_option linter.unusedVariables false

/-- A block gives its place to a new one. -/
theorem HRel.hand {B : Nat} {ρ : BMap} {bs : List (Nat × ABlk)} {w w' : World} (h : HRel B ρ bs w) {i n : Nat} {k k' : ABlk} (hi : lookB bs i = some k) (hk : k.rw = true) (_hk' : k'.rw = true) {x y : Nat × Nat × Nat} (hρ : ρ i = some x) (hy : y.1 = x.1)
    (hf : ρ n = none) (hsz : w.heap.size ≤ w'.heap.size) (hoth : ∀ j, j ≠ x.1 → w'.heap[j]? = w.heap[j]?) (hn : BRel (fun j => if j = n then some y else ρ j) B w' y k') (hnf : k.isFro = false := by rfl) :
    Ext ρ (fun j => if j = n then some y else ρ j) ∧ HRel B (fun j => if j = n then some y else ρ j) ((n, k') :: dropB bs i) w' := by
  have hext : Ext ρ (fun j => if j = n then some y else ρ j) := by
    intro j z hz
    by_cases e : j = n
    · subst e; rw [hf] at hz; cases hz
    · simpa [e] using hz
  have hx1 : B ≤ x.1 := by
    obtain ⟨z, hz, hr⟩ := h.blk i k hi
    rw [hρ] at hz; cases hz
    exact hr.rw_ge hk
  have old : ∀ j kj, j ≠ n → lookB (dropB bs i) j = some kj → j ≠ i ∧ lookB bs j = some kj := by
    intro j kj _ hj
    rw [lookB_dropB] at hj
    split at hj
    · cases hj
    · exact ⟨‹_›, hj⟩
  have apart : ∀ j kj z, j ≠ i → lookB bs j = some kj → ρ j = some z → z.1 ≠ x.1 := by
    intro j kj z hji hj hz e
    obtain ⟨z', hz', hr⟩ := h.blk j kj hj
    rw [hz] at hz'; cases hz'
    cases hkj : kj.rw with
    | true =>
      rcases h.inj j i kj k z x hj hi hkj hk hz hρ e with g | g
      · exact hji g
      · rw [hnf] at g; exact absurd g.2.1 (by simp)
    | false => have := hr.ro_lt hkj; omega
  refine ⟨hext, Nat.le_trans h.hB hsz, ?_, ?_, h.glob.of (Nat.le_refl _) fun k hk => hoth k (by omega)⟩
  · intro j kj hj
    simp only [lookB] at hj
    by_cases e : j = n
    · subst e
      simp only [Nat.beq_refl, if_true, Option.some.injEq] at hj
      subst hj
      exact ⟨y, by simp, hn⟩
    · simp only [beq_ne e, Bool.false_eq_true, if_false] at hj
      obtain ⟨h1, h2⟩ := old j kj e hj
      obtain ⟨z, hz, hr⟩ := h.blk j kj h2
      exact ⟨z, by simpa [e] using hz, (hr.ext hext).same (hoth _ (apart j kj z h1 h2 hz))⟩
  · intro a c ka kc xa xc ha hc hka hkc hxa hxc heq
    simp only [lookB] at ha hc
    by_cases ea : a = n
    · by_cases ec : c = n
      · exact .inl (by rw [ea, ec])
      · simp only [beq_ne ec, Bool.false_eq_true, if_false] at hc
        obtain ⟨h1, h2⟩ := old c kc ec hc
        simp only [ea, if_true, Option.some.injEq] at hxa
        simp only [ec, if_false] at hxc
        exact absurd (by rw [← heq, ← hxa, hy]) (apart c kc xc h1 h2 hxc)
    · simp only [beq_ne ea, Bool.false_eq_true, if_false] at ha
      obtain ⟨h1, h2⟩ := old a ka ea ha
      simp only [ea, if_false] at hxa
      by_cases ec : c = n
      · simp only [ec, if_true, Option.some.injEq] at hxc
        exact absurd (by rw [heq, ← hxc, hy]) (apart a ka xa h1 h2 hxa)
      · simp only [beq_ne ec, Bool.false_eq_true, if_false] at hc
        obtain ⟨h3, h4⟩ := old c kc ec hc
        simp only [ec, if_false] at hxc
        exact h.inj a c ka kc xa xc h2 h4 hka hkc hxa hxc heq

noncomputable def sliceLen : Value → Option Nat
  | .slice _ n _ => some n
  | _ => none

noncomputable def srcCells (bs : List (Nat × ABlk)) (x : Value) (size : Nat) : Option (List Value) :=
  match x with
  | .slice (some ⟨j, off, none⟩) m sz =>
    match lookB bs j with
    | some (.cells _ cs) => if Nat.beq sz size then takeCells cs off (m * size) else none
    | _ => none
  | .slice (some ⟨j, 0, some 1⟩) m 0 =>
    match lookB bs j with
    | some (.ints g) => if Nat.beq size 1 then some ((List.range m).map fun q => Value.int .i64 (g q)) else none
    | _ => none
  | _ => none

noncomputable def dstCells (bs : List (Nat × ABlk)) (s : Value) (size : Nat) : Option (List Value × Nat × List (Nat × ABlk)) :=
  match s with
  | .slice none 0 0 => some ([], 0, bs)
  | .slice (some ⟨i, off, none⟩) n sz =>
    match lookB bs i with
    | some (.cells false cs) => if Nat.beq sz size then (takeCells cs off (n * size)).map fun l => (l, n, dropB bs i) else none
    | _ => none
  | _ => none

noncomputable def aAppend (T : TypeId → Option TI) (H : AH) (t : TypeId) (s x : Value) : Option (Value × AH) :=
  match T t with
  | some { desc := .slice e, .. } =>
    match T e, sliceLen x, sliceLen s with
    | some _, some 0, some _ => some (s, H)
    | some y, some (m + 1), some _ =>
      match srcCells H.bs x y.size, dstCells H.bs s y.size with
      | some news, some (olds, n, bs') =>
        if Nat.ble ((n + (m + 1)) * y.bytes) 1000000000000 && Nat.ble (n + (m + 1)) 1000000000000 && news.all cellV then
          some (.slice (some ⟨H.next, 0, none⟩) (n + (m + 1)) y.size, { next := H.next + 1, bs := (H.next, .cells false (olds ++ news)) :: bs' })
        else none
      | _, _ => none
    | _, _, _ => none
  | _ => none

theorem run_app_head {P : Program} {T : TypeId → Option TI} (hT : TOk P T) {t e : TypeId} {x y : TI} (hx : T t = some x) (hd : x.desc = .slice e) (hy : T e = some y) {ty : TypeId} {base : Option Addr} {sLen sCap m c : Nat} {xa : Option Addr} {w : World} (hroom : sLen ≤ sCap) (hm : m = 0) :
    (Builtin.append_ #[t, t] ty #[.slice base sLen sCap, .slice xa m c]).run P w = .ok (.slice base sLen sCap) w := by
  subst hm
  have hu := run_underlying (hT.under hx) w
  rw [hd] at hu
  have hl : (Builtin.firstCells y.size 0 (.slice xa 0 c)).run P w = .ok #[] w := by
    cases xa <;> simp [Builtin.firstCells, loadCells, loadCellsFrom]
  cases base <;> simp [Builtin.append_, hu, hT.size hy w, Builtin.lenOf, hroom, hl, storeCells]

/-- What is appended is a slice or a string. -/
def SrcT (P : Program) (tx : TypeId) : Prop := (∃ e, P.underlying tx = some (.slice e)) ∨ P.underlying tx = some .string

theorem run_app_room {P : Program} {T : TypeId → Option TI} (hT : TOk P T) {t tx e : TypeId} {x y : TI} (hx : T t = some x) (hd : x.desc = .slice e) (hy : T e = some y) (hux : SrcT P tx) {ty : TypeId} {a : Addr} {X : Value} {sLen sCap m : Nat} {w w' : World} {news : Array Value}
    (hlen : (Builtin.lenOf X).run P w = .ok m w) (hroom : sLen + m ≤ sCap) (hn : (Builtin.firstCells y.size m X).run P w = .ok news w) (hst : (storeCells (a.add (sLen * y.size)) news.toList).run P w = .ok () w') :
    (Builtin.append_ #[t, tx] ty #[.slice (some a) sLen sCap, X]).run P w = .ok (.slice (some a) (sLen + m) sCap) w' := by
  have hu := run_underlying (hT.under hx) w
  rw [hd] at hu
  rcases hux with ⟨e', hux⟩ | hux
  · have hux' := run_underlying hux w
    simp [Builtin.append_, hu, hux', hT.size hy w, hlen, hroom, hn, hst]
  · have hux' := run_underlying hux w
    simp [Builtin.append_, hu, hux', hT.size hy w, hlen, hroom, hn, hst]

theorem run_app_grow {P : Program} {T : TypeId → Option TI} (hT : TOk P T) {t tx e : TypeId} {x y : TI} (hx : T t = some x) (hd : x.desc = .slice e) (hy : T e = some y) (hux : SrcT P tx) {ty : TypeId} {base : Option Addr} {X : Value} {sLen sCap m : Nat} {w : World} {olds news : Array Value}
    (hlen : (Builtin.lenOf X).run P w = .ok m w) (hroom : ¬ sLen + m ≤ sCap) (hb : (sLen + m) * y.bytes ≤ 1000000000000) (hl : sLen + m ≤ 1000000000000) (hn : (Builtin.firstCells y.size m X).run P w.drew = .ok news w.drew)
    (ho : (Builtin.firstCells y.size sLen (.slice base sLen sCap)).run P w.drew = .ok olds w.drew) :
    (Builtin.append_ #[t, tx] ty #[.slice base sLen sCap, X]).run P w = .ok (.slice (some ⟨w.heap.size, 0, none⟩) (sLen + m) (grownCap w (sLen + m) sCap e))
      (w.drew.alloc (.cells (olds ++ news ++ Builtin.zeroCells y.zero.cells (grownCap w (sLen + m) sCap e - (sLen + m))) e)) := by
  have hu := run_underlying (hT.under hx) w
  rw [hd] at hu
  obtain ⟨⟨i, hi, h1, h2, h3⟩, _⟩ := hT e y hy
  have hfit := growslice_fits (need := sLen + m) (old := sCap) (bytes := y.bytes) (by omega) (by omega)
  have h48 : ¬ (281474976710656 < Builtin.nextslicecap (sLen + m) sCap * y.bytes) := by omega
  have h63 : ¬ (9223372036854775807 < ((sLen : Int) + (m : Int))) := by omega
  rcases hux with ⟨e', hux⟩ | hux
  · have hux' := run_underlying hux w
    simp [Builtin.append_, hu, hux', hT.size hy w, hlen, hroom, typeInfo, hi, h2, h63, h48, Question.forced, zeroValue, h3, hn, ho, newRow, grownCap]
  · have hux' := run_underlying hux w
    simp [Builtin.append_, hu, hux', hT.size hy w, hlen, hroom, typeInfo, hi, h2, h63, h48, Question.forced, zeroValue, h3, hn, ho, newRow, grownCap]

theorem slice_le {ρ : BMap} {v u : Value} {n : Nat} (h : VRel ρ v u) (hv : sliceLen v = some n) : ∃ a cap, u = .slice a n cap ∧ n ≤ cap := by
  cases h <;> simp only [sliceLen, Option.some.injEq, reduceCtorEq] at hv <;> subst hv
  all_goals first | exact ⟨_, _, rfl, ‹_›⟩ | exact ⟨_, _, rfl, Nat.le_refl _⟩ | exact ⟨_, _, rfl, Nat.zero_le _⟩

theorem zeroCells_size (z : Array Value) (n : Nat) : (Builtin.zeroCells z n).size = n * z.size := by simp [Builtin.zeroCells]

theorem takeCells_all (l cs : List Value) (off : Nat) (h : ∀ q, q < l.length → cs[off + q]? = l[q]?) : takeCells cs off l.length = some l := by
  have hlen : l.length ≤ (cs.drop off).length := by
    rw [List.length_drop]
    rcases Nat.eq_zero_or_pos l.length with h0 | h0
    · omega
    · have h1 := h (l.length - 1) (by omega)
      rw [List.getElem?_eq_getElem (l := l) (by omega)] at h1
      have := (List.getElem?_eq_some_iff.1 h1).1
      omega
  unfold takeCells
  rw [takeK_eq, dropR_eq, if_pos hlen]
  congr 1
  apply List.ext_getElem?
  intro q
  rw [List.getElem?_take, List.getElem?_drop]
  split
  · rename_i hq; exact h q hq
  · rename_i hq; rw [List.getElem?_eq_none (by omega)]

theorem run_cells2 {P : Program} {B : Nat} {ρ : BMap} {bs : List (Nat × ABlk)} {w : World} (hH : HRel B ρ bs w) {j off n : Nat} {ro : Bool} {cs l : List Value} (hj : lookB bs j = some (.cells ro cs)) {b o tot : Nat} (hρ : ρ j = some (b, o, tot)) (hl : takeCells cs off n = some l) :
    ∃ cn : List Value, (loadCells ⟨b, o + off, none⟩ n).run P w = .ok cn.toArray w ∧ (loadCells ⟨b, o + off, none⟩ n).run P w.drew = .ok cn.toArray w.drew ∧ LRel ρ l cn.toArray := by
  obtain ⟨cn, hn1, hn2, hn3⟩ := run_cells (P := P) hH hj hρ hl
  refine ⟨cn, hn1, ?_, hn3⟩
  obtain ⟨cn', h1', h2', h3'⟩ := run_cells (P := P) hH.drew hj hρ hl
  have : cn' = cn := by
    apply List.ext_getElem?
    intro q
    have hlen : cn'.length = cn.length := by
      have a1 := h3'.1; have a2 := hn3.1
      simp at a1 a2; omega
    rcases Nat.lt_or_ge q cn.length with hq | hq
    · have e1 := hn2 q cn[q] (List.getElem?_eq_getElem hq)
      have e2 := h2' q (cn'[q]'(by omega)) (List.getElem?_eq_getElem (by omega))
      rw [World.cell?_drew, e1] at e2
      rw [List.getElem?_eq_getElem hq, List.getElem?_eq_getElem (by omega)]
      simpa using e2.symm
    · rw [List.getElem?_eq_none hq, List.getElem?_eq_none (by omega)]
  rw [← this]; exact h1'

theorem srcCells_sound {P : Program} {B : Nat} {ρ : BMap} {bs : List (Nat × ABlk)} {w : World} (hH : HRel B ρ bs w) {x x' : Value} (hx : VRel ρ x x') {size m : Nat} {news : List Value} (h : srcCells bs x size = some news) (hxl : sliceLen x = some (m + 1)) :
    ∃ (bj oo capj : Nat) (cn : List Value), x' = .slice (some ⟨bj, oo, none⟩) (m + 1) capj ∧ (loadCells ⟨bj, oo, none⟩ ((m + 1) * size)).run P w = .ok cn.toArray w ∧
      (loadCells ⟨bj, oo, none⟩ ((m + 1) * size)).run P w.drew = .ok cn.toArray w.drew ∧ LRel ρ news cn.toArray ∧ news.length = (m + 1) * size := by
  unfold srcCells at h
  split at h
  · rename_i j offj m' sz
    split at h
    · rename_i roj csj hj
      split at h
      · simp only [sliceLen, Option.some.injEq] at hxl
        subst hxl
        cases hx with
        | slice hρj hlj htj =>
          rename_i bj oj totj capj
          obtain ⟨cn, h1, h2, h3⟩ := run_cells2 (P := P) hH hj hρj h
          exact ⟨bj, oj + offj, capj, cn, rfl, h1, h2, h3, (takeCells_spec _ _ _ _ h).1⟩
      · cases h
    · cases h
  · rename_i j m'
    split at h
    · rename_i g hj
      split at h
      · rename_i hs
        have hs1 : size = 1 := Nat.eq_of_beq_eq_true hs
        subst hs1
        simp only [sliceLen, Option.some.injEq] at hxl
        subst hxl
        cases h
        cases hx with
        | rsl hρ hl ht =>
          rename_i b o tot cap
          obtain ⟨z, hz, hr⟩ := hH.blk j _ hj
          rw [hρ] at hz; cases hz
          obtain ⟨hB, ccs, e, fz, g1, g2, g3⟩ := hr
          have hlen : ((List.range (m + 1)).map fun q => Value.int .i64 (g q)).length = (m + 1) * 1 := by simp
          have hH2 : HRel B ρ [(j, .cells true ((List.range (m + 1)).map fun q => Value.int .i64 (g q)))] w := by
            have one : ∀ i k, lookB [(j, ABlk.cells true ((List.range (m + 1)).map fun q => Value.int .i64 (g q)))] i = some k → k.rw = false ∧ ∃ x, ρ i = some x ∧ BRel ρ B w x k := by
              intro i k hk
              simp only [lookB] at hk
              split at hk
              · rename_i hb
                have : i = j := Nat.eq_of_beq_eq_true hb
                subst this
                cases hk
                refine ⟨rfl, _, hρ, ccs, e, fz, g1, fun q v hv => ?_, by simpa using hB, by simpa using ht⟩
                have hq : q < m + 1 := by
                  have := (List.getElem?_eq_some_iff.1 hv).1
                  simpa using this
                simp only [List.getElem?_map, List.getElem?_range hq, Option.map_some, Option.some.injEq] at hv
                subst hv
                exact ⟨_, g2 q (Nat.lt_of_lt_of_le hq ht), .int _ _⟩
              · cases hk
            refine ⟨hH.hB, fun i k hk => (one i k hk).2, fun i i' ki ki' xi xi' hi hi' hki => ?_, hH.glob⟩
            rw [(one i ki hi).1] at hki
            cases hki
          obtain ⟨cn, h1, h2, h3⟩ := run_cells2 (P := P) (off := 0) (n := (m + 1) * 1) (ro := true) (cs := (List.range (m + 1)).map fun q => Value.int .i64 (g q)) (l := (List.range (m + 1)).map fun q => Value.int .i64 (g q)) hH2 (by simp [lookB]) hρ (by rw [← hlen]; exact takeCells_all _ _ _ (fun q _ => by rw [Nat.zero_add]))
          exact ⟨b, o, cap, cn, rfl, by simpa using h1, by simpa using h2, h3, hlen⟩
      · cases h
    · cases h
  · cases h

theorem aAppend_grow {P : Program} {T : TypeId → Option TI} (hT : TOk P T) {B : Nat} {ρ : BMap} {H : AH} {w : World} {t tx ty e : TypeId} {sz0 by0 : Nat} {z0 : Value} {ex0 : TX} {y : TI} (ht : T t = some ⟨sz0, by0, z0, .slice e, ex0⟩) (hy : T e = some y) (hux : SrcT P tx) {X : Value} {m n : Nat} {news olds : List Value} {bs' : List (Nat × ABlk)} {cn : List Value}
    (hc1 : (n + (m + 1)) * y.bytes ≤ 1000000000000) (hc2 : n + (m + 1) ≤ 1000000000000)
    (hlen : ∀ w, (Builtin.lenOf X).run P w = .ok (m + 1) w) (hn1d : (Builtin.firstCells y.size (m + 1) X).run P w.drew = .ok cn.toArray w.drew) (hn3 : LRel ρ news cn.toArray) (hnl : news.length = (m + 1) * y.size)
    (hH : HRel B ρ H.bs w) (hf : Free ρ H.next (H.next + 1)) (base : Option Addr) (sCap : Nat) (co : List Value) (hroom : ¬ n + (m + 1) ≤ sCap) (hol : olds.length = n * y.size) (hor : LRel ρ olds co.toArray)
    (hfc : (Builtin.firstCells y.size n (.slice base n sCap)).run P w.drew = .ok co.toArray w.drew) (hsub : ∀ q k, lookB bs' q = some k → lookB H.bs q = some k) :
    ∃ ρ' w' u, (Builtin.append_ #[t, tx] ty #[.slice base n sCap, X]).run P w = .ok u w' ∧ VRel ρ' (.slice (some ⟨H.next, 0, none⟩) (n + (m + 1)) y.size) u ∧
        Post B ρ H w { next := H.next + 1, bs := (H.next, .cells false (olds ++ news)) :: bs' } ρ' w' := by
  have hrun := run_app_grow (ty := ty) hT ht rfl hy hux (hlen w) hroom hc1 hc2 hn1d hfc
  have hge := grownCap_ge w (n + (m + 1)) sCap e
  have hzs : y.zero.cells.size = y.size := (hT e y hy).2.2.2.1
  have hcol : co.length = n * y.size := by
    have := hor.1; simp at this; omega
  have hcnl : cn.length = (m + 1) * y.size := by
    have := hn3.1; simp at this; omega
  generalize hZ : Builtin.zeroCells y.zero.cells (grownCap w (n + (m + 1)) sCap e - (n + (m + 1))) = Z at hrun
  have hZs : Z.size = (grownCap w (n + (m + 1)) sCap e - (n + (m + 1))) * y.size := by rw [← hZ, zeroCells_size, hzs]
  generalize hg : grownCap w (n + (m + 1)) sCap e = G at hrun hge hZs
  have htot : (co.toArray ++ cn.toArray ++ Z).size = G * y.size := by
    simp only [Array.size_append, List.size_toArray, hcol, hcnl, hZs]
    rw [← Nat.add_mul, ← Nat.add_mul]; congr 1; omega
  have hH2 : HRel B ρ bs' w.drew := (hH.sub hsub).drew
  have hpost := post_row (H := { next := H.next, bs := bs' }) hH2 (fun q h1 h2 => hf q h1 h2) (olds ++ news) (co.toArray ++ cn.toArray ++ Z) e
    (by simp only [List.length_append, hol, hnl, htot]; rw [← Nat.add_mul]; exact Nat.mul_le_mul_right _ (by omega))
    (fun q u hq => by
      rw [List.getElem?_append] at hq
      have hsz1 : q < (co.toArray ++ cn.toArray).size → (co.toArray ++ cn.toArray ++ Z)[q]? = (co.toArray ++ cn.toArray)[q]? := fun hlt => by
        rw [Array.getElem?_append_left hlt]
      split at hq
      · rename_i hlt
        obtain ⟨u', hu', hr'⟩ := hor.get hq
        refine ⟨u', ?_, hr'⟩
        rw [hsz1 (by simp; omega), Array.getElem?_append_left (by simp; omega)]
        exact hu'
      · rename_i hlt
        obtain ⟨u', hu', hr'⟩ := hn3.get hq
        refine ⟨u', ?_, hr'⟩
        have hq' : q - olds.length < cn.length := by
          have := (List.getElem?_eq_some_iff.1 (by simpa using hu')).1
          exact this
        rw [hsz1 (by simp; omega), Array.getElem?_append_right (by simp; omega)]
        simpa [hcol, hol] using hu')
  refine ⟨bmapAt ρ H.next w.heap.size (co.toArray ++ cn.toArray ++ Z).size, _, _, hrun, ?_, ?_⟩
  · have := VRel.slice (ρ := bmapAt ρ H.next w.heap.size (co.toArray ++ cn.toArray ++ Z).size) (off := 0) (len := n + (m + 1)) (sz := y.size) (cap := G) (bmapAt_self ρ H.next w.heap.size _) hge (by rw [htot]; omega)
    simpa using this
  · exact ⟨hpost.ext, hpost.out, hpost.rel, (Below.refl B w).drew.trans hpost.below⟩

theorem aAppend_core {P : Program} {T : TypeId → Option TI} (hT : TOk P T) {B : Nat} {ρ : BMap} {H : AH} {w : World} {t tx ty e : TypeId} {sz0 by0 : Nat} {z0 : Value} {ex0 : TX} {y : TI} (ht : T t = some ⟨sz0, by0, z0, .slice e, ex0⟩) (hy : T e = some y) (hux : SrcT P tx) {s s' X : Value} {m n : Nat} {news olds : List Value} {bs' : List (Nat × ABlk)} {cn : List Value}
    (hdst : dstCells H.bs s y.size = some (olds, n, bs')) (hc1 : (n + (m + 1)) * y.bytes ≤ 1000000000000) (hc2 : n + (m + 1) ≤ 1000000000000) (hc3 : news.all cellV = true)
    (hlen : ∀ w, (Builtin.lenOf X).run P w = .ok (m + 1) w) (hn1 : (Builtin.firstCells y.size (m + 1) X).run P w = .ok cn.toArray w) (hn1d : (Builtin.firstCells y.size (m + 1) X).run P w.drew = .ok cn.toArray w.drew) (hn3 : LRel ρ news cn.toArray) (hnl : news.length = (m + 1) * y.size)
    (hH : HRel B ρ H.bs w) (hf : Free ρ H.next (H.next + 1)) (hs : VRel ρ s s') :
    ∃ ρ' w' u, (Builtin.append_ #[t, tx] ty #[s', X]).run P w = .ok u w' ∧ VRel ρ' (.slice (some ⟨H.next, 0, none⟩) (n + (m + 1)) y.size) u ∧ Post B ρ H w { next := H.next + 1, bs := (H.next, .cells false (olds ++ news)) :: bs' } ρ' w' := by
  -- a new row: what is needed
  have grow : ∀ (base : Option Addr) (sCap : Nat) (co : List Value), ¬ n + (m + 1) ≤ sCap → olds.length = n * y.size → LRel ρ olds co.toArray →
      (Builtin.firstCells y.size n (.slice base n sCap)).run P w.drew = .ok co.toArray w.drew → (∀ q k, lookB bs' q = some k → lookB H.bs q = some k) →
      ∃ ρ' w' u, (Builtin.append_ #[t, tx] ty #[.slice base n sCap, X]).run P w = .ok u w' ∧ VRel ρ' (.slice (some ⟨H.next, 0, none⟩) (n + (m + 1)) y.size) u ∧
        Post B ρ H w { next := H.next + 1, bs := (H.next, .cells false (olds ++ news)) :: bs' } ρ' w' := by
    intro base sCap co hroom hol hor hfc hsub
    exact aAppend_grow hT ht hy hux hc1 hc2 hlen hn1d hn3 hnl hH hf base sCap co hroom hol hor hfc hsub
  -- the destination
  unfold dstCells at hdst
  split at hdst
  · cases hdst
    cases hs
    exact grow none 0 [] (by omega) (by simp) ⟨rfl, fun q u u' hq => by simp at hq⟩ (by simp [Builtin.firstCells]) (fun q k hk => hk)
  · rename_i i off n' sz'
    split at hdst
    · rename_i cs hi
      split at hdst
      · rename_i hsz2
        have hsz2' : sz' = y.size := Nat.eq_of_beq_eq_true hsz2
        subst hsz2'
        simp only [Option.map_eq_some_iff, Prod.mk.injEq] at hdst
        obtain ⟨l, hl, rfl, rfl, rfl⟩ := hdst
        cases hs with
        | slice hρi hli hti =>
          rename_i b o tot cap
          have hol := (takeCells_spec _ _ _ _ hl).1
          by_cases hroom : n' + (m + 1) ≤ cap
          · -- in place
            obtain ⟨z, hz, ccs, e', fz, g1, g2, g3⟩ := hH.blk i _ hi
            rw [hρi] at hz; cases hz
            simp only [Bool.false_eq_true, if_false] at g1 g2 g3
            obtain ⟨⟨g3, hfz, g4⟩, g5⟩ := g3
            have hcnl : cn.length = (m + 1) * y.size := by
              have := hn3.1; simp at this; omega
            have hmul : (n' + (m + 1)) * y.size ≤ cap * y.size := Nat.mul_le_mul_right _ hroom
            rw [Nat.add_mul] at hmul
            have hfit : o + off + n' * y.size + cn.length ≤ ccs.size := by omega
            have hst := run_storeCells_cells (P := P) b (o + off + n' * y.size) cn 0 w
              (fun q hq => by
                simp only [World.cell?, g1, Nat.add_zero]
                have : o + off + n' * y.size + q < ccs.size := by omega
                simp [Array.getElem?_eq_getElem this])
              (fun q hq => by
                simp only [World.frozen?, g1]
                rcases hfz with rfl | hfz
                · simp
                · obtain ⟨lo, hi⟩ := fz
                  simp only at hfz
                  have : ¬ lo ≤ o + off + n' * y.size + q := by omega
                  simp [this])
              (fun u hu => by
                obtain ⟨q, hq⟩ := List.getElem?_of_mem hu
                have hq' : q < news.length := by rw [hnl, ← hcnl]; exact (List.getElem?_eq_some_iff.1 hq).1
                exact cellV_rel (hn3.2 q _ _ (List.getElem?_eq_getElem hq') (by simpa using hq)) (List.all_eq_true.1 hc3 _ (List.getElem_mem hq')))
            simp only [Nat.add_zero] at hst
            have hrun := run_app_room (ty := ty) (a := ⟨b, o + off, none⟩) (sCap := cap) hT ht rfl hy hux (hlen w) hroom hn1 (by rw [addr_add]; exact hst)
            obtain ⟨s1, s2, s3, _⟩ := setCells_heap cn b (o + off + n' * y.size) w ccs e' fz g1
            have hhand := hH.hand (n := H.next) (w' := w.setCells b (o + off + n' * y.size) cn) (k' := .cells false (l ++ news)) (y := (b, o + off, tot - off)) hi rfl rfl hρi rfl (hf _ (Nat.le_refl _) (Nat.lt_succ_self _)) (by omega) s2 ?_
            · refine ⟨fun q => if q = H.next then some (b, o + off, tot - off) else ρ q, _, _, hrun, ?_, hhand.1, fun q hq => ?_, hhand.2, below_setCells g1 g3⟩
              · have := VRel.slice (ρ := fun q => if q = H.next then some (b, o + off, tot - off) else ρ q) (i := H.next) (b := b) (o := o + off) (tot := tot - off) (off := 0) (len := n' + (m + 1)) (sz := y.size) (cap := cap) (by simp) hroom (by omega)
                simpa using this
              · have hq' : q < H.next ∨ H.next + 1 ≤ q := hq
                have : ¬ q = H.next := by omega
                simp [this]
            · refine ⟨_, e', fz, s1, ?_, ?_⟩
              · intro q u hq
                dsimp only
                have hext : Ext ρ (fun j => if j = H.next then some (b, o + off, tot - off) else ρ j) := by
                  intro j z hz
                  by_cases ej : j = H.next
                  · subst ej; rw [hf _ (Nat.le_refl _) (Nat.lt_succ_self _)] at hz; cases hz
                  · simpa [ej] using hz
                rw [List.getElem?_append] at hq
                split at hq
                · rename_i hlt
                  rw [(takeCells_spec _ _ _ _ hl).2 q (by omega)] at hq
                  obtain ⟨u', hu', hr'⟩ := g2 _ _ hq
                  refine ⟨u', ?_, hr'.ext hext⟩
                  rw [List.getElem?_toArray, putCells_get cn ccs.toList _ _ (by simp; omega), if_neg (by omega)]
                  simpa [Nat.add_assoc] using hu'
                · rename_i hlt
                  obtain ⟨u', hu', hr'⟩ := hn3.get hq
                  have hq' : q - l.length < cn.length := (List.getElem?_eq_some_iff.1 (by simpa using hu')).1
                  refine ⟨u', ?_, hr'.ext hext⟩
                  rw [List.getElem?_toArray, putCells_get cn ccs.toList _ _ (by simp; omega), if_pos (by omega)]
                  rw [show o + off + q - (o + off + n' * y.size) = q - l.length by omega]
                  simpa using hu'
              · simp only [Bool.false_eq_true, if_false]
                refine ⟨⟨g3, hfz.imp id fun h => by omega, ?_⟩, ?_⟩
                · simp [putCells_length]; omega
                · simp only [List.length_append, hol, hnl]; omega
          · -- a new row
            obtain ⟨co, h1, h2, h3⟩ := run_cells (P := P) hH.drew hi hρi hl
            exact grow (some ⟨b, o + off, none⟩) cap co hroom hol h3 (by simpa [Builtin.firstCells] using h1) (fun q k hk => by
              rw [lookB_dropB] at hk
              split at hk
              · cases hk
              · exact hk)
      · cases hdst
    · cases hdst
  · cases hdst

theorem aAppend_sound {P : Program} {T : TypeId → Option TI} (hT : TOk P T) {B : Nat} {ρ : BMap} {H H' : AH} {w : World} {t ty : TypeId} {s x s' x' v : Value} (h : aAppend T H t s x = some (v, H'))
    (hH : HRel B ρ H.bs w) (hf : Free ρ H.next H'.next) (hs : VRel ρ s s') (hx : VRel ρ x x') :
    ∃ ρ' w' u, (Builtin.append_ #[t, t] ty #[s', x']).run P w = .ok u w' ∧ VRel ρ' v u ∧ Post B ρ H w H' ρ' w' := by
  unfold aAppend at h
  split at h
  · rename_i _ _ _ e _ ht
    split at h
    · rename_i y n hy hxl hsl
      cases h
      obtain ⟨xa, xc, rfl, _⟩ := slice_le hx hxl
      obtain ⟨sa, sc, rfl, hle⟩ := slice_le hs hsl
      exact ⟨ρ, w, _, run_app_head hT ht rfl hy hle rfl, hs, Post.same hH⟩
    · rename_i y m n0 hy hxl hsl
      split at h
      · rename_i news olds n bs' hsrc hdst
        split at h
        · rename_i hc
          simp only [Bool.and_eq_true, Nat.ble_eq] at hc
          obtain ⟨⟨hc1, hc2⟩, hc3⟩ := hc
          cases h
          obtain ⟨bj, oo, capj, cn, rfl, hn1, hn1d, hn3, hnl⟩ := srcCells_sound (P := P) hH hx hsrc hxl
          exact aAppend_core hT ht hy (.inl ⟨e, hT.under ht⟩) hdst hc1 hc2 hc3 (fun w => by simp [Builtin.lenOf]) (by simpa [Builtin.firstCells] using hn1) (by simpa [Builtin.firstCells] using hn1d) hn3 hnl hH hf hs
        · cases h
      · cases h
    · cases h
  · cases h

/-- The bytes of a string, as they are appended. -/
noncomputable def strCells (s : ByteArray) : List Value := s.data.toList.map fun b => .int .u8 b.toNat

noncomputable def aAppendS (T : TypeId → Option TI) (H : AH) (t tx : TypeId) (s x : Value) : Option (Value × AH) :=
  match T t, T tx, x with
  | some { desc := .slice e, .. }, some { desc := .string, .. }, .string str =>
    match T e, str.data.toList.length, sliceLen s with
    | some _, 0, some _ => some (s, H)
    | some y, m + 1, some _ =>
      match y.desc with
      | .int .u8 =>
        match dstCells H.bs s y.size with
        | some (olds, n, bs') =>
          if Nat.beq y.size 1 && Nat.ble ((n + (m + 1)) * y.bytes) 1000000000000 && Nat.ble (n + (m + 1)) 1000000000000 then
            some (.slice (some ⟨H.next, 0, none⟩) (n + (m + 1)) y.size, { next := H.next + 1, bs := (H.next, .cells false (olds ++ strCells str)) :: bs' })
          else none
        | none => none
      | _ => none
    | _, _, _ => none
  | _, _, _ => none

theorem strCells_rel (ρ : BMap) (s : ByteArray) : LRel ρ (strCells s) (strCells s).toArray := by
  refine ⟨by simp, fun j v v' hv hv' => ?_⟩
  have e : v = v' := by
    have : (strCells s)[j]? = some v' := by simpa using hv'
    rw [hv] at this; exact Option.some.inj this
  subst e
  unfold strCells at hv
  simp only [List.getElem?_map, Option.map_eq_some_iff] at hv
  obtain ⟨b, _, rfl⟩ := hv
  exact .int _ _

theorem firstCells_str {P : Program} (size : Nat) (s : ByteArray) (w : World) : (Builtin.firstCells size s.size (.string s)).run P w = .ok (strCells s).toArray w := by
  have : s.extract 0 s.size = s := by simp
  simp only [Builtin.firstCells, this, Sem.run_pure]
  congr 1
  apply Array.ext'
  simp [strCells]

theorem aAppendS_sound {P : Program} {T : TypeId → Option TI} (hT : TOk P T) {B : Nat} {ρ : BMap} {H H' : AH} {w : World} {t tx ty : TypeId} {s x s' x' v : Value} (h : aAppendS T H t tx s x = some (v, H'))
    (hH : HRel B ρ H.bs w) (hf : Free ρ H.next H'.next) (hs : VRel ρ s s') (hx : VRel ρ x x') :
    ∃ ρ' w' u, (Builtin.append_ #[t, tx] ty #[s', x']).run P w = .ok u w' ∧ VRel ρ' v u ∧ Post B ρ H w H' ρ' w' := by
  unfold aAppendS at h
  split at h
  · rename_i _ _ _ e _ _ _ _ _ str ht htx
    have hux : P.underlying tx = some .string := hT.under htx
    cases hx
    have hsz : str.size = str.data.toList.length := by rw [Array.length_toList]; rfl
    split at h
    · rename_i y n hy hl0 hsl
      cases h
      obtain ⟨sa, sc, rfl, hle⟩ := slice_le hs hsl
      have h0 : str.size = 0 := by rw [hsz]; exact hl0
      have hst0 : strCells str = [] := by unfold strCells; rw [List.length_eq_zero_iff.1 hl0]; rfl
      have hfc := firstCells_str (P := P) y.size str w
      rw [h0, hst0] at hfc
      refine ⟨ρ, w, _, ?_, hs, Post.same hH⟩
      have hu := run_underlying (hT.under ht) w
      have hux' := run_underlying hux w
      have hlen : (Builtin.lenOf (.string str)).run P w = .ok 0 w := by simp [Builtin.lenOf, h0]
      clear h0 hst0 hl0 hsz
      generalize Value.string str = X at hlen hfc
      cases sa <;> simp [Builtin.append_, hu, hux', hT.size hy w, hlen, hle, hfc, storeCells]
    · rename_i y m n0 hy hl1 hsl
      split at h
      · rename_i hyd
        split at h
        · rename_i olds n bs' hdst
          split at h
          · rename_i hc
            simp only [Bool.and_eq_true, Nat.ble_eq, Nat.beq_eq] at hc
            obtain ⟨⟨hy1, hc1⟩, hc2⟩ := hc
            cases h
            have hm : str.size = m + 1 := by rw [hsz]; exact hl1
            have hcl : (strCells str).length = (m + 1) * y.size := by
              rw [hy1, Nat.mul_one]; simp only [strCells, List.length_map]; exact hl1
            exact aAppend_core hT ht hy (.inr hux) hdst hc1 hc2 (by
              refine List.all_eq_true.2 fun a ha => ?_
              unfold strCells at ha
              obtain ⟨b, _, rfl⟩ := List.mem_map.1 ha
              rfl) (fun w => by simp [Builtin.lenOf, hm]) (by rw [← hm]; exact firstCells_str y.size str w) (by rw [← hm]; exact firstCells_str y.size str w.drew) (strCells_rel ρ str) hcl hH hf hs
          · cases h
        · cases h
      · cases h
    · cases h
  · cases h


/-! ### append to a row that is used again: both rows are kept, and nothing is stored in them. -/
noncomputable def froC : ABlk → Option (List Value)
  | .cellsT false cs none => some cs
  | .fro cs => some cs
  | _ => none
noncomputable def froK (n : Nat) : ABlk → ABlk
  | .fro cs => .fro (takeR cs n)
  | k => k
noncomputable def toFro : ABlk → ABlk
  | .cellsT false cs none => .fro cs
  | k => k
noncomputable def froB (i n : Nat) : List (Nat × ABlk) → List (Nat × ABlk)
  | [] => []
  | (j, k) :: r => (j, if Nat.beq j i then toFro k else froK n k) :: froB i n r

theorem lookB_froB (i n : Nat) : ∀ (bs : List (Nat × ABlk)) (j : Nat), lookB (froB i n bs) j = (lookB bs j).map fun k => if j = i then toFro k else froK n k
  | [], _ => rfl
  | (q, k) :: r, j => by
    simp only [froB, lookB]
    cases hb : Nat.beq j q with
    | true =>
      have := Nat.eq_of_beq_eq_true hb
      subst this
      simp only [if_true, Option.map_some, beq_iff]
    | false => simpa using lookB_froB i n r j

theorem froK_cases (n : Nat) (k : ABlk) : froK n k = k ∨ ∃ cs, k = .fro cs ∧ froK n k = .fro (cs.take n) := by
  cases k with
  | fro cs => exact .inr ⟨cs, rfl, by simp only [froK, takeR_eq]⟩
  | _ => exact .inl rfl

/-- What a block may become: itself, or a shared row that is not longer. -/
def Weak (k' k : ABlk) : Prop := k' = k ∨ ∃ cs m, k' = .fro (cs.take m) ∧ (k = .cells false cs ∨ k = .fro cs)

theorem toFro_weak (k : ABlk) : Weak (toFro k) k := by
  unfold toFro
  split
  · rename_i cs
    exact .inr ⟨cs, cs.length, by simp, .inl rfl⟩
  · exact .inl rfl
theorem froK_weak (n : Nat) (k : ABlk) : Weak (froK n k) k := by
  rcases froK_cases n k with h | ⟨cs, rfl, h⟩
  · exact .inl h
  · exact .inr ⟨cs, n, h, .inr rfl⟩

theorem Weak.rel {k' k : ABlk} (h : Weak k' k) {ρ : BMap} {B : Nat} {w : World} {x : Nat × Nat × Nat} (hr : BRel ρ B w x k) : BRel ρ B w x k' := by
  rcases h with rfl | ⟨cs, m, rfl, h⟩
  · exact hr
  · have hr' : BRel ρ B w x (.fro cs) := by
      rcases h with rfl | rfl
      · exact hr.mkfro
      · exact hr
    obtain ⟨ccs, e, fz, h1, h2, h3, h4⟩ := hr'
    refine ⟨ccs, e, fz, h1, fun j v hv => h2 j v ?_, h3, by simp; omega⟩
    rw [List.getElem?_take] at hv
    split at hv
    · exact hv
    · cases hv
theorem Weak.rw_of {k' k : ABlk} (h : Weak k' k) (hr : k'.rw = true) : k.rw = true := by
  rcases h with rfl | ⟨cs, m, rfl, rfl | rfl⟩
  · exact hr
  · rfl
  · rfl
theorem Weak.fro_of {k' k : ABlk} (h : Weak k' k) (hr : k.isFro = true) : k'.isFro = true := by
  rcases h with rfl | ⟨cs, m, rfl, _⟩
  · exact hr
  · rfl

theorem HRel.weak {B : Nat} {ρ : BMap} {bs bs' : List (Nat × ABlk)} {w : World} (h : HRel B ρ bs w) (hs : ∀ i k', lookB bs' i = some k' → ∃ k, lookB bs i = some k ∧ Weak k' k) : HRel B ρ bs' w := by
  refine ⟨h.hB, fun i k' hk' => ?_, fun i j ki kj xi xj hi hj hki hkj hxi hxj heq => ?_, h.glob⟩
  · obtain ⟨k, hk, hw⟩ := hs i k' hk'
    obtain ⟨x, hx, hr⟩ := h.blk i k hk
    exact ⟨x, hx, hw.rel hr⟩
  · obtain ⟨ki0, hi0, hwi⟩ := hs i ki hi
    obtain ⟨kj0, hj0, hwj⟩ := hs j kj hj
    rcases h.inj i j ki0 kj0 xi xj hi0 hj0 (hwi.rw_of hki) (hwj.rw_of hkj) hxi hxj heq with g | ⟨g1, g2, g3⟩
    · exact .inl g
    · exact .inr ⟨hwi.fro_of g1, hwj.fro_of g2, g3⟩

theorem froB_weak (i n : Nat) (bs : List (Nat × ABlk)) : ∀ j k', lookB (froB i n bs) j = some k' → ∃ k, lookB bs j = some k ∧ Weak k' k := by
  intro j k' hk
  rw [lookB_froB, Option.map_eq_some_iff] at hk
  obtain ⟨k, h1, h2⟩ := hk
  refine ⟨k, h1, ?_⟩
  split at h2
  · rw [← h2]; exact toFro_weak k
  · rw [← h2]; exact froK_weak n k

/-- A row is made longer in place: the old one stays, as a shared one. -/
theorem HRel.split {B : Nat} {ρ : BMap} {bs : List (Nat × ABlk)} {w w' : World} (h : HRel B ρ bs w) {i n : Nat} {k : ABlk} {cs ds : List Value} (hi : lookB bs i = some k) (hk : froC k = some cs) {x : Nat × Nat × Nat} (hρ : ρ i = some x)
    (hf : ρ n = none) (hsz : w.heap.size ≤ w'.heap.size) (hoth : ∀ j, j ≠ x.1 → w'.heap[j]? = w.heap[j]?)
    (hin : ∀ (c : Array Value) (e : TypeId) (fz : Nat × Nat), w.heap[x.1]? = some (.cells c e fz) → ∃ c' : Array Value, w'.heap[x.1]? = some (.cells c' e fz) ∧ c'.size = c.size ∧ ∀ q, q < x.2.1 + cs.length → c'[q]? = c[q]?)
    (hn : BRel (fun j => if j = n then some x else ρ j) B w' x (.fro ds)) :
    Ext ρ (fun j => if j = n then some x else ρ j) ∧ HRel B (fun j => if j = n then some x else ρ j) ((n, .fro ds) :: froB i cs.length bs) w' := by
  have hext : Ext ρ (fun j => if j = n then some x else ρ j) := by
    intro j z hz
    by_cases e : j = n
    · subst e; rw [hf] at hz; cases hz
    · simpa [e] using hz
  have hkw : k.rw = true := by
    unfold froC at hk
    split at hk
    · rfl
    · rfl
    · cases hk
  have hx1 : B ≤ x.1 := by
    obtain ⟨z, hz, hr⟩ := h.blk i k hi
    rw [hρ] at hz; cases hz
    exact hr.rw_ge hkw
  have same : ∀ (cs' : List Value), cs'.length ≤ cs.length → BRel ρ B w x (.fro cs') → BRel (fun j => if j = n then some x else ρ j) B w' x (.fro cs') := by
    intro cs' hl hr
    obtain ⟨ccs, e, fz, h1, h2, h3, h4⟩ := hr
    obtain ⟨c', g1, g2, g3⟩ := hin ccs e fz h1
    refine ⟨c', e, fz, g1, fun j v hv => ?_, by rw [g2]; exact h3, h4⟩
    obtain ⟨u, hu, hr⟩ := h2 j v hv
    have : j < cs'.length := (List.getElem?_eq_some_iff.1 hv).1
    exact ⟨u, by rw [g3 _ (by omega)]; exact hu, hr.ext hext⟩
  refine ⟨hext, Nat.le_trans h.hB hsz, ?_, ?_, h.glob.of (Nat.le_refl _) fun k hk => hoth k (by omega)⟩
  · intro j kj hj
    simp only [lookB] at hj
    by_cases e : j = n
    · subst e
      simp only [Nat.beq_refl, if_true, Option.some.injEq] at hj
      subst hj
      exact ⟨x, by simp, hn⟩
    · simp only [beq_ne e, Bool.false_eq_true, if_false] at hj
      rw [lookB_froB, Option.map_eq_some_iff] at hj
      obtain ⟨k0, hj0, hk0⟩ := hj
      obtain ⟨z, hz, hr⟩ := h.blk j k0 hj0
      refine ⟨z, by simpa [e] using hz, ?_⟩
      by_cases eji : j = i
      · subst eji
        rw [hi] at hj0
        cases hj0
        rw [hρ] at hz; cases hz
        simp only [if_true] at hk0
        unfold froC at hk
        split at hk
        · cases hk
          simp only [toFro] at hk0
          subst hk0
          exact same _ (Nat.le_refl _) hr
        · cases hk
          simp only [toFro] at hk0
          subst hk0
          exact same _ (Nat.le_refl _) hr
        · cases hk
      · simp only [eji, if_false] at hk0
        by_cases hzx : z.1 = x.1
        · -- shared
          cases hkw0 : k0.rw with
          | false => have := hr.ro_lt hkw0; omega
          | true =>
            rcases h.inj j i k0 k z x hj0 hi hkw0 hkw hz hρ hzx with g | ⟨g1, g2, g3⟩
            · exact absurd g eji
            · rcases froK_cases cs.length k0 with hq | ⟨cs0, rfl, hq⟩
              · cases k0 with
                | fro cs0 =>
                  have hl : cs0.length ≤ cs.length := by
                    simp only [froK, takeR_eq, ABlk.fro.injEq] at hq
                    have := congrArg List.length hq
                    simp at this; omega
                  rw [← hk0, hq]
                  obtain ⟨ccs, e', fz, h1, h2, h3, h4⟩ := hr
                  rw [hzx] at h1
                  obtain ⟨c', f1, f2, f3⟩ := hin ccs e' fz h1
                  refine ⟨c', e', fz, by rw [hzx]; exact f1, fun q v hv => ?_, by rw [f2]; exact h3, h4⟩
                  obtain ⟨u, hu, hr'⟩ := h2 q v hv
                  have : q < cs0.length := (List.getElem?_eq_some_iff.1 hv).1
                  exact ⟨u, by rw [f3 _ (by omega)]; exact hu, hr'.ext hext⟩
                | _ => simp [ABlk.isFro] at g1
              · rw [← hk0, hq]
                obtain ⟨ccs, e', fz, h1, h2, h3, h4⟩ := hr
                rw [hzx] at h1
                obtain ⟨c', f1, f2, f3⟩ := hin ccs e' fz h1
                refine ⟨c', e', fz, by rw [hzx]; exact f1, fun q v hv => ?_, by rw [f2]; exact h3, by simp; omega⟩
                rw [List.getElem?_take] at hv
                split at hv
                · obtain ⟨u, hu, hr'⟩ := h2 q v hv
                  exact ⟨u, by rw [f3 _ (by omega)]; exact hu, hr'.ext hext⟩
                · cases hv
        · have hw : Weak kj k0 := by rw [← hk0]; exact froK_weak _ _
          exact hw.rel ((hr.ext hext).same (hoth _ hzx))
  · intro a c ka kc xa xc ha hc hka hkc hxa hxc heq
    simp only [lookB] at ha hc
    have old : ∀ j kj xj, j ≠ n → (if Nat.beq j n = true then some (ABlk.fro ds) else lookB (froB i cs.length bs) j) = some kj → kj.rw = true → (if j = n then some x else ρ j) = some xj →
        ∃ k0, lookB bs j = some k0 ∧ Weak kj k0 ∧ k0.rw = true ∧ ρ j = some xj ∧ (j = i → kj.isFro = true) := by
      intro j kj xj e hj hkj hxj
      simp only [beq_ne e, Bool.false_eq_true, if_false] at hj
      simp only [e, if_false] at hxj
      have hj1 := hj
      obtain ⟨k0, h1, h2⟩ := froB_weak i cs.length bs j kj hj
      refine ⟨k0, h1, h2, h2.rw_of hkj, hxj, fun eji => ?_⟩
      subst eji
      rw [lookB_froB, hi] at hj1
      simp only [Option.map_some, if_true, Option.some.injEq] at hj1
      rw [← hj1]
      unfold froC at hk
      split at hk
      · rfl
      · rfl
      · cases hk
    by_cases ea : a = n
    · by_cases ec : c = n
      · exact .inl (by rw [ea, ec])
      · obtain ⟨k0, h1, h2, h3, h4, h5⟩ := old c kc xc ec hc hkc hxc
        simp only [ea, Nat.beq_refl, if_true, Option.some.injEq] at ha hxa
        subst ha hxa
        by_cases eci : c = i
        · subst eci
          rw [hρ] at h4; cases h4
          exact .inr ⟨rfl, h5 rfl, rfl⟩
        · rcases h.inj c i k0 k xc x h1 hi h3 hkw h4 hρ heq.symm with g | ⟨g1, g2, g3⟩
          · exact absurd g eci
          · exact .inr ⟨rfl, h2.fro_of g1, g3.symm⟩
    · obtain ⟨k0, h1, h2, h3, h4, h5⟩ := old a ka xa ea ha hka hxa
      by_cases ec : c = n
      · simp only [ec, Nat.beq_refl, if_true, Option.some.injEq] at hc hxc
        subst hc hxc
        by_cases eai : a = i
        · subst eai
          rw [hρ] at h4; cases h4
          exact .inr ⟨h5 rfl, rfl, rfl⟩
        · rcases h.inj a i k0 k xa x h1 hi h3 hkw h4 hρ heq with g | ⟨g1, g2, g3⟩
          · exact absurd g eai
          · exact .inr ⟨h2.fro_of g1, rfl, g3⟩
      · obtain ⟨k1, f1, f2, f3, f4, f5⟩ := old c kc xc ec hc hkc hxc
        rcases h.inj a c k0 k1 xa xc h1 f1 h3 f3 h4 f4 heq with g | ⟨g1, g2, g3⟩
        · exact .inl g
        · exact .inr ⟨h2.fro_of g1, f2.fro_of g2, g3⟩

noncomputable def aAppendF (T : TypeId → Option TI) (H : AH) (t : TypeId) (s x : Value) : Option (Value × AH) :=
  match T t, s with
  | some { desc := .slice e, .. }, .slice (some ⟨i, 0, none⟩) n sz =>
    match T e, sliceLen x, lookB H.bs i with
    | some y, some (m + 1), some k =>
      match froC k, srcCells H.bs x y.size with
      | some olds, some news =>
        if Nat.beq sz y.size && Nat.beq olds.length (n * y.size) && Nat.ble ((n + (m + 1)) * y.bytes) 1000000000000 && Nat.ble (n + (m + 1)) 1000000000000 && news.all cellV then
          some (.slice (some ⟨H.next, 0, none⟩) (n + (m + 1)) y.size, { next := H.next + 1, bs := (H.next, .fro (olds ++ news)) :: froB i olds.length H.bs })
        else none
      | _, _ => none
    | _, _, _ => none
  | _, _ => none

theorem aAppendF_sound {P : Program} {T : TypeId → Option TI} (hT : TOk P T) {B : Nat} {ρ : BMap} {H H' : AH} {w : World} {t ty : TypeId} {s x s' x' v : Value} (h : aAppendF T H t s x = some (v, H'))
    (hH : HRel B ρ H.bs w) (hf : Free ρ H.next H'.next) (hs : VRel ρ s s') (hx : VRel ρ x x') :
    ∃ ρ' w' u, (Builtin.append_ #[t, t] ty #[s', x']).run P w = .ok u w' ∧ VRel ρ' v u ∧ Post B ρ H w H' ρ' w' := by
  unfold aAppendF at h
  split at h
  · rename_i sz0 by0 z0 e ex0 i n sz ht
    split at h
    · rename_i y m k hy hxl hi
      split at h
      · rename_i olds news hk hsrc
        split at h
        · rename_i hc
          simp only [Bool.and_eq_true, Nat.ble_eq, beq_iff] at hc
          obtain ⟨⟨⟨⟨rfl, hol⟩, hc1⟩, hc2⟩, hc3⟩ := hc
          cases h
          obtain ⟨bj, oo, capj, cn, rfl, hn1, hn1d, hn3, hnl⟩ := srcCells_sound (P := P) hH hx hsrc hxl
          have hnl' := hnl
          have hlen : ∀ w, (Builtin.lenOf (.slice (some ⟨bj, oo, none⟩) (m + 1) capj)).run P w = .ok (m + 1) w := fun w => by simp [Builtin.lenOf]
          have hux : SrcT P t := .inl ⟨e, hT.under ht⟩
          have hN1 : (Builtin.firstCells y.size (m + 1) (.slice (some ⟨bj, oo, none⟩) (m + 1) capj)).run P w = .ok cn.toArray w := by simpa [Builtin.firstCells] using hn1
          have hN1d : (Builtin.firstCells y.size (m + 1) (.slice (some ⟨bj, oo, none⟩) (m + 1) capj)).run P w.drew = .ok cn.toArray w.drew := by simpa [Builtin.firstCells] using hn1d
          cases hs with
          | slice hρi hli hti =>
            rename_i b o tot cap
            obtain ⟨z, hz, hbr⟩ := hH.blk i _ hi
            rw [hρi] at hz; cases hz
            have hbf : BRel ρ B w (b, o, tot) (.fro olds) := by
              unfold froC at hk
              split at hk
              · cases hk; exact hbr
              · cases hk; exact hbr
              · cases hk
            by_cases hroom : n + (m + 1) ≤ cap
            · -- in place
              obtain ⟨ccs, e', fz, g1, g2, ⟨g3, hfz, g4⟩, g5⟩ := hbf
              simp only at g1 g2 g3 hfz g4 g5
              have hcnl : cn.length = (m + 1) * y.size := by
                have := hn3.1; simp at this; omega
              have hmul : (n + (m + 1)) * y.size ≤ cap * y.size := Nat.mul_le_mul_right _ hroom
              rw [Nat.add_mul] at hmul
              have hfit : o + n * y.size + cn.length ≤ ccs.size := by omega
              have hst := run_storeCells_cells (P := P) b (o + n * y.size) cn 0 w
                (fun q hq => by
                  simp only [World.cell?, g1, Nat.add_zero]
                  have : o + n * y.size + q < ccs.size := by omega
                  simp [Array.getElem?_eq_getElem this])
                (fun q hq => by
                  simp only [World.frozen?, g1]
                  rcases hfz with rfl | hfz
                  · simp
                  · obtain ⟨lo, hi⟩ := fz
                    simp only at hfz
                    have : ¬ lo ≤ o + n * y.size + q := by omega
                    simp [this])
                (fun u hu => by
                  obtain ⟨q, hq⟩ := List.getElem?_of_mem hu
                  have hq' : q < news.length := by rw [hnl, ← hcnl]; exact (List.getElem?_eq_some_iff.1 hq).1
                  exact cellV_rel (hn3.2 q _ _ (List.getElem?_eq_getElem hq') (by simpa using hq)) (List.all_eq_true.1 hc3 _ (List.getElem_mem hq')))
              simp only [Nat.add_zero] at hst
              have hrun := run_app_room (ty := ty) (a := ⟨b, o, none⟩) (sCap := cap) hT ht rfl hy hux (hlen w) hroom hN1 (by rw [addr_add]; exact hst)
              obtain ⟨s1, s2, s3, _⟩ := setCells_heap cn b (o + n * y.size) w ccs e' fz g1
              have hsplit := hH.split (n := H.next) (w' := w.setCells b (o + n * y.size) cn) (ds := olds ++ news) (x := (b, o, tot)) hi hk hρi (hf _ (Nat.le_refl _) (Nat.lt_succ_self _)) (by omega) s2 ?_ ?_
              · refine ⟨fun q => if q = H.next then some (b, o, tot) else ρ q, _, _, hrun, ?_, hsplit.1, fun q hq => ?_, hsplit.2, below_setCells g1 g3⟩
                · have := VRel.slice (ρ := fun q => if q = H.next then some (b, o, tot) else ρ q) (i := H.next) (b := b) (o := o) (tot := tot) (off := 0) (len := n + (m + 1)) (sz := y.size) (cap := cap) (by simp) hroom (by omega)
                  simpa using this
                · have hq' : q < H.next ∨ H.next + 1 ≤ q := hq
                  have : ¬ q = H.next := by omega
                  simp [this]
              · intro c e2 fz2 hc2
                simp only at hc2
                rw [g1] at hc2
                cases hc2
                refine ⟨_, s1, by simp [putCells_length], fun q hq => ?_⟩
                rw [List.getElem?_toArray, putCells_get cn ccs.toList _ _ (by simp; omega), if_neg (by simp only at hq; omega)]
                simp
              · refine ⟨_, e', fz, s1, ?_, ?_⟩
                · intro q u hq
                  dsimp only
                  have hext : Ext ρ (fun j => if j = H.next then some (b, o, tot) else ρ j) := by
                    intro j z hz
                    by_cases ej : j = H.next
                    · subst ej; rw [hf _ (Nat.le_refl _) (Nat.lt_succ_self _)] at hz; cases hz
                    · simpa [ej] using hz
                  rw [List.getElem?_append] at hq
                  split at hq
                  · rename_i hlt
                    obtain ⟨u', hu', hr'⟩ := g2 _ _ hq
                    refine ⟨u', ?_, hr'.ext hext⟩
                    rw [List.getElem?_toArray, putCells_get cn ccs.toList _ _ (by simp; omega), if_neg (by omega)]
                    simpa using hu'
                  · rename_i hlt
                    obtain ⟨u', hu', hr'⟩ := hn3.get hq
                    have hq' : q - olds.length < cn.length := (List.getElem?_eq_some_iff.1 (by simpa using hu')).1
                    refine ⟨u', ?_, hr'.ext hext⟩
                    rw [List.getElem?_toArray, putCells_get cn ccs.toList _ _ (by simp; omega), if_pos (by omega)]
                    rw [show o + q - (o + n * y.size) = q - olds.length by omega]
                    simpa using hu'
                · refine ⟨⟨g3, hfz, ?_⟩, ?_⟩
                  · simp [putCells_length]; omega
                  · simp only [List.length_append, hol, hnl]; omega
            · -- a new row
              have hH2 : HRel B ρ ((i, .cells false olds) :: []) w := by
                refine ⟨hH.hB, fun q kq hq => ?_, fun a c ka kc xa xc ha hc _ _ _ _ _ => ?_, hH.glob⟩
                · simp only [lookB] at hq
                  split at hq
                  · rename_i hqi
                    rw [beq_iff] at hqi
                    cases hq
                    subst hqi
                    exact ⟨_, hρi, hbf⟩
                  · cases hq
                · simp only [lookB] at ha hc
                  split at ha
                  · rename_i h1
                    split at hc
                    · rename_i h2
                      rw [beq_iff] at h1 h2
                      exact .inl (by rw [h1, h2])
                    · cases hc
                  · cases ha
              have hlk : lookB ((i, ABlk.cells false olds) :: []) i = some (.cells false olds) := by simp [lookB]
              obtain ⟨co, h1, h2, h3⟩ := run_cells (P := P) (n := n * y.size) (off := 0) (l := olds) hH2.drew hlk hρi (by rw [← hol]; exact takeCells_all _ _ _ (fun q _ => by rw [Nat.zero_add]))
              obtain ⟨ρ', w', u, r1, r2, r3⟩ := aAppend_grow (ty := ty) hT ht hy hux hc1 hc2 hlen hN1d hn3 hnl hH hf (some ⟨b, o + 0, none⟩) cap co hroom hol h3 (by simpa [Builtin.firstCells] using h1) (fun q k hk => hk)
              refine ⟨ρ', w', u, by simpa using r1, r2, r3.ext, r3.out, ?_, r3.below⟩
              refine r3.rel.weak fun q k' hq => ?_
              simp only [lookB] at hq ⊢
              split at hq
              · rename_i hb
                cases hq
                refine ⟨_, if_pos hb, .inr ⟨olds ++ news, (olds ++ news).length, by rw [List.take_length], .inl rfl⟩⟩
              · rename_i hb
                rw [if_neg hb]
                exact froB_weak _ _ _ _ _ hq
        · cases h
      · cases h
    · cases h
  · cases h

theorem aAppendF_next {T : TypeId → Option TI} {H H' : AH} {t : TypeId} {s x v : Value} (h : aAppendF T H t s x = some (v, H')) : H.next ≤ H'.next := by
  unfold aAppendF at h
  split at h
  · split at h
    · split at h
      · split at h
        · cases h; exact Nat.le_succ _
        · cases h
      · cases h
    · cases h
  · cases h

/-- Whether lists of a type are made longer as shared rows. -/
noncomputable def frOf (T : TypeId → Option TI) (t : TypeId) : Bool := match T t with
  | some z => z.ex.fr
  | none => false
noncomputable def aAppendG (T : TypeId → Option TI) (H : AH) (t : TypeId) (s x : Value) : Option (Value × AH) :=
  if frOf T t then match aAppendF T H t s x with
    | some r => some r
    | none => aAppend T H t s x
  else aAppend T H t s x
theorem aAppend_next {T : TypeId → Option TI} {H H' : AH} {t : TypeId} {s x v : Value} (h : aAppend T H t s x = some (v, H')) : H.next ≤ H'.next := by
  unfold aAppend at h
  split at h
  · split at h
    · cases h; exact Nat.le_refl _
    · split at h
      · split at h
        · cases h; exact Nat.le_succ _
        · cases h
      · cases h
    · cases h
  · cases h
theorem aAppendG_cases {T : TypeId → Option TI} {H : AH} {t : TypeId} {s x : Value} {r : Value × AH} (h : aAppendG T H t s x = some r) : aAppendF T H t s x = some r ∨ aAppend T H t s x = some r := by
  unfold aAppendG at h
  split at h
  · split at h
    · rename_i r' hr
      cases h
      exact .inl hr
    · exact .inr h
  · exact .inr h
theorem aAppendG_next {T : TypeId → Option TI} {H H' : AH} {t : TypeId} {s x v : Value} (h : aAppendG T H t s x = some (v, H')) : H.next ≤ H'.next := (aAppendG_cases h).elim aAppendF_next aAppend_next
theorem aAppendG_sound {P : Program} {T : TypeId → Option TI} (hT : TOk P T) {B : Nat} {ρ : BMap} {H H' : AH} {w : World} {t ty : TypeId} {s x s' x' v : Value} (h : aAppendG T H t s x = some (v, H'))
    (hH : HRel B ρ H.bs w) (hf : Free ρ H.next H'.next) (hs : VRel ρ s s') (hx : VRel ρ x x') :
    ∃ ρ' w' u, (Builtin.append_ #[t, t] ty #[s', x']).run P w = .ok u w' ∧ VRel ρ' v u ∧ Post B ρ H w H' ρ' w' :=
  (aAppendG_cases h).elim (fun h => aAppendF_sound hT h hH hf hs hx) (fun h => aAppend_sound hT h hH hf hs hx)

end Go.Proofs.Ytjginpeoblilpaa
