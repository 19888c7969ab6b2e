/-
  What is proved: calls with a set and a list that lie in cells: what is known of calls with both told by functions holds for them; they answer a closed value and a list in one new block. the errors of tiles: checkTiles of the document, which looks for each tile among those before it. checkTiles as answers that calls may take; the bag that the program makes of tiles. the bag that the program makes of tiles. the source of numbers: a number below another one, between two, and odds. numbers that the kit's source hands out lie below their bound (arithmetic alone). NewSource, and numbers brought into a range. how many plain kinds a set has whose lists lie in cells. what the small sets of the source keep of the memory: lists that grow. the faces that the program makes of tiles. the faces that the program makes of tiles. Bag and Faces of a set and a part of a list in cells, also of an empty part, as answers that calls may take. what checkDeal, full and copied answer for a set and a list in cells. the words of a seed: what the program's generator and the document's own draw, in numbers; no three words in a row are refused. what the two generators answer: a word, and a number below another one. what the document's own draw answers; the program's shuffle of an array. the program's shuffle of an array of 144 integers. whether a set is valid, and its size; copies of lists; the wall that the program makes. copies of lists; the wall that the program makes. answers that are lists of integers in one new block, told by a function of the arguments; the program's wall as such an answer. Bag and Faces of a set in cells and of an empty part behind the end of a list, as answers that calls may take. counting: a wall has each tile once; how many tiles there are of a kind, and how many red ones. checkDeal and full as answers that calls may take; copied of a part of a list in cells. the places of a row, one after another. the small sets that the source makes: suits.
-/
import Derived.Test.YtjginpeoblilpaaLawSg0
import Derived.OpenShut
namespace Go.Proofs.Ytjginpeoblilpaa
open Go.RowKit
set_option linter.unusedSimpArgs false
set_option linter.unusedVariables false

section
set_option linter.unusedSimpArgs false
set_option linter.unusedVariables false

/-- A part of a list in cells. -/
noncomputable def seeT (bs : List (Nat × ABlk)) : Value → Option (Nat × (Nat → Int))
  | .slice (some ⟨a, off, none⟩) n 1 => match lookB bs a with
    | some (.cells _ cs) => if okC cs cs.length && Nat.ble (off + n) cs.length then some (n, fun j => gi cs (off + j)) else none
    | _ => none
  | _ => none
theorem seeT_spec {bs : List (Nat × ABlk)} {u : Value} {n : Nat} {t : Nat → Int} (h : seeT bs u = some (n, t)) :
    ∃ a off ro cs, u = .slice (some ⟨a, off, none⟩) n 1 ∧ lookB bs a = some (.cells ro cs) ∧ okC cs cs.length = true ∧ off + n ≤ cs.length ∧ t = fun j => gi cs (off + j) := by
  unfold seeT at h
  split at h
  · split at h
    · rename_i ro cs hl
      split at h
      · rename_i hc
        simp only [Bool.and_eq_true, Nat.ble_eq] at hc
        cases h
        exact ⟨_, _, ro, cs, rfl, hl, hc.1, hc.2, rfl⟩
      · cases h
    · cases h
  · cases h
theorem part_rel {B : Nat} {ρ : BMap} {bs : List (Nat × ABlk)} {w : World} (hH : HRel B ρ bs w) {a off n : Nat} {ro : Bool} {cs : List Value} (hl : lookB bs a = some (.cells ro cs)) (hc : okC cs cs.length = true) (hn : off + n ≤ cs.length) {u : Value} (hu : VRel ρ (.slice (some ⟨a, off, none⟩) n 1) u) :
    ∃ b o cap, u = .slice (some ⟨b, o, none⟩) n cap ∧ n ≤ cap ∧ b < w.heap.size ∧ ∃ (ccs : Array Value) (e : TypeId) (fz : Nat × Nat), w.heap[b]? = some (.cells ccs e fz) ∧ ∀ j : Nat, j < n → ccs[o + j]? = some (.int .i64 (gi cs (off + j))) := by
  cases hu with
  | slice hρ hle ht =>
    rename_i b o tot cap
    obtain ⟨x, hx, hr⟩ := hH.blk a _ hl
    rw [hρ] at hx; cases hx
    have hlt := hr.lt
    obtain ⟨ccs, e, fz, h1, h2, _⟩ := hr
    refine ⟨b, o + off, cap, rfl, hle, hlt, ccs, e, fz, h1, fun j hj => ?_⟩
    obtain ⟨v, hv, hvr⟩ := h2 (off + j) _ (okC_at hc (by omega))
    cases hvr
    rw [Nat.add_assoc]
    exact hv
theorem setpart_rel {v0 u : Value} {rest : List Value} {H : AH} {s : SV} {n : Nat} {t : Nat → Int} (hs : seeC v0 H.bs = some s) (ht : seeT H.bs u = some (n, t)) (hn : n ≤ 200) (hrest : rest.all (closedV 3) = true) {B : Nat} {ρ : BMap} {w : World} {args' : Array Value} (hargs : LRel ρ (v0 :: u :: rest) args') (hH : HRel B ρ H.bs w) :
    s.n ≤ 200 ∧ s.k ≤ 200 ∧ ∃ ρ2 : BMap, LRel ρ2 (s.val :: sl2 n :: rest) args' ∧ HRel w.heap.size ρ2 (hpT s t).bs w ∧ ∀ q, 3 ≤ q → ρ2 q = none := by
  have hsz : args'.size = rest.length + 2 := by have := hargs.1; simp at this; omega
  -- the set alone
  have h0 : LRel ρ [v0] #[args'[0]] := by
    refine ⟨rfl, fun j y z hy hz => ?_⟩
    match j with
    | 0 => cases hy; cases hz; exact hargs.2 0 _ _ rfl (Array.getElem?_eq_getElem (show 0 < args'.size by omega))
    | j + 1 => simp at hy
  obtain ⟨hsn, hsk, ρ1, a1, r1, z1⟩ := set_rel (rest := []) hs rfl h0 hH
  obtain ⟨a, off, ro, cs, rfl, l1, c1, hl, rfl⟩ := seeT_spec ht
  have h1 := hargs.2 1 _ _ rfl (Array.getElem?_eq_getElem (show 1 < args'.size by omega))
  generalize hu1 : args'[1] = u1 at h1
  obtain ⟨b, o, cap, rfl, hcap, hbl, ccs, ty, fz, hb1, hcells⟩ := part_rel hH l1 c1 hl h1
  let ρ2 : BMap := fun i => if i = 2 then some (b, o, n) else ρ1 i
  have hext : Ext ρ1 ρ2 := fun i y hy => by
    have : i ≠ 2 := fun e => by rw [e, z1 2 (by omega)] at hy; cases hy
    simp [ρ2, this, hy]
  refine ⟨hsn, hsk, ρ2, ?_, ?_, fun q hq => ?_⟩
  · refine ⟨by simpa using hargs.1, fun j y y' hy hy' => ?_⟩
    match j with
    | 0 =>
      cases hy
      rw [Array.getElem?_eq_getElem (show 0 < args'.size by omega)] at hy'
      cases hy'
      exact (a1.2 0 _ _ rfl rfl).ext hext
    | 1 =>
      cases hy
      rw [Array.getElem?_eq_getElem (show 1 < args'.size by omega), hu1] at hy'
      cases hy'
      exact .rsl (by simp [ρ2]) hcap (Nat.le_refl _)
    | j + 2 =>
      have hr1 := hargs.2 (j + 2) y y' hy hy'
      have hcl := List.all_eq_true.1 hrest y (List.mem_of_getElem? (l := rest) (i := j) (by simpa using hy))
      have := closedV_eq 3 y y' hcl hr1
      subst this
      exact closedV_rel _ 3 _ hcl
  · have one : ∀ i q, lookB (hpT s fun j => gi cs (off + j)).bs i = some q → q.rw = false ∧ ∃ x, ρ2 i = some x ∧ BRel ρ2 w.heap.size w x q := by
      intro i q hq
      match i with
      | 0 =>
        obtain ⟨x, hx, hr⟩ := r1.blk 0 (.ints s.g) (by simp [SV.hp, lookB, Nat.beq_eq])
        cases hq
        obtain ⟨b1, b2⟩ := hr
        exact ⟨rfl, x, hext _ _ hx, b1, b2⟩
      | 1 =>
        obtain ⟨x, hx, hr⟩ := r1.blk 1 (.ints s.h) (by simp [SV.hp, lookB, Nat.beq_eq])
        cases hq
        obtain ⟨b1, b2⟩ := hr
        exact ⟨rfl, x, hext _ _ hx, b1, b2⟩
      | 2 => cases hq; exact ⟨rfl, (b, o, n), by simp [ρ2], hbl, ccs, ty, fz, hb1, hcells, hn⟩
      | i + 3 => simp [hpT, lookB, Nat.beq_eq] at hq
    refine ⟨Nat.le_refl _, fun i q hq => (one i q hq).2, fun i j ki kj xi xj hi hj hki => ?_, hH.glob.of hH.hB fun _ _ => rfl⟩
    rw [(one i ki hi).1] at hki
    cases hki
  · have : q ≠ 2 := by omega
    simp only [ρ2, this, if_false]
    exact z1 q (by omega)
end

section
set_option linter.unusedSimpArgs false
set_option linter.unusedVariables false

theorem Nkind : ((tabT Try.prog) 24).map (fun z => z.ex.nat 17) = some none := by kernel_rfl
theorem Wkind : wrT 17 = false := by kernel_rfl
theorem Ckind (call : Value → List Value → AH → Option (Value × AH)) {tm : Tm} {j k : Nat} {H : AH} {d : Option Tmp} {t : TypeId} {p : String} {a : Array Edge} {gd : Option (Nat × Bool)} : evOp (tabT Try.prog) call ⟨d, .call ⟨.value (.func 17), #[.tmp j, .tmp k], #[24, 3]⟩, t, p, a, gd⟩ (opd tm) H = call (.func (.func 17) #[] #[]) [tm.get j, tm.get k] H :=
  evOp_evO.trans (eo_call2n rfl rfl rfl Nkind)
theorem Gkind (call : Value → List Value → AH → Option (Value × AH)) {tm : Tm} {rs : List DR} {ts : List Nat} {j k : Nat} {H : AH} {d : Option Tmp} {t : TypeId} {p : String} {a : Array Edge} {gd : Option (Nat × Bool)} (hj : natMem ts j = true) (hk : natMem ts k = true) : evOp (tabT Try.prog) call ⟨d, .call ⟨.value (.func 17), #[.tmp j, .tmp k], #[24, 3]⟩, t, p, a, gd⟩ (gOf tm rs ts) H = call (.func (.func 17) #[] #[]) [(finT tm rs).get j, (finT tm rs).get k] H :=
  evOp_evO.trans (eo_call2n rfl (by simp only [gOf, hj, if_true]) (by simp only [gOf, hk, if_true]) Nkind)
theorem Nhas : ((tabT Try.prog) 22).map (fun z => z.ex.nat 56) = some none := by kernel_rfl
theorem Whas : wrT 56 = false := by kernel_rfl
theorem Chas (call : Value → List Value → AH → Option (Value × AH)) {tm : Tm} {j k : Nat} {H : AH} {d : Option Tmp} {t : TypeId} {p : String} {a : Array Edge} {gd : Option (Nat × Bool)} : evOp (tabT Try.prog) call ⟨d, .call ⟨.value (.func 56), #[.tmp j, .tmp k], #[22, 3]⟩, t, p, a, gd⟩ (opd tm) H = call (.func (.func 56) #[] #[]) [tm.get j, tm.get k] H :=
  evOp_evO.trans (eo_call2n rfl rfl rfl Nhas)
theorem Ghas (call : Value → List Value → AH → Option (Value × AH)) {tm : Tm} {rs : List DR} {ts : List Nat} {j k : Nat} {H : AH} {d : Option Tmp} {t : TypeId} {p : String} {a : Array Edge} {gd : Option (Nat × Bool)} (hj : natMem ts j = true) (hk : natMem ts k = true) : evOp (tabT Try.prog) call ⟨d, .call ⟨.value (.func 56), #[.tmp j, .tmp k], #[22, 3]⟩, t, p, a, gd⟩ (gOf tm rs ts) H = call (.func (.func 56) #[] #[]) [(finT tm rs).get j, (finT tm rs).get k] H :=
  evOp_evO.trans (eo_call2n rfl (by simp only [gOf, hj, if_true]) (by simp only [gOf, hk, if_true]) Nhas)
theorem slints {T : TypeId → Option TI} {t e : TypeId} {z : Nat} (h1 : (T t).map (·.desc) = some (.slice e)) (h2 : (T e).map (·.size) = some z) (i n k : Nat) (h : k ≤ n) : aSlice T t (.slice (some ⟨i, 0, some 1⟩) n 0) none (some (.int .i64 (k : Int))) = some (.slice (some ⟨i, 0, some 1⟩) k 0) := by
  obtain ⟨_, _, _, _, ht⟩ := tdesc h1
  cases he : T e with
  | none => rw [he] at h2; cases h2
  | some q =>
    have hb : Nat.ble k n = true := by simpa [Nat.ble_eq] using h
    simp [aSlice, bnd, natV, ht, he, hb]
theorem SL22 (i n k : Nat) (h : k ≤ n) : aSlice (tabT Try.prog) 22 (.slice (some ⟨i, 0, some 1⟩) n 0) none (some (.int .i64 (k : Int))) = some (.slice (some ⟨i, 0, some 1⟩) k 0) := slints (e := 3) (z := 1) (by kernel_rfl) (by kernel_rfl) i n k h

theorem kindOf_neg (s : SV) (x : Int) : decide (s.kindOf x < 0) = !s.inB x := by
  unfold SV.kindOf
  cases hb : s.inB x with
  | false => simp
  | true =>
    obtain ⟨_, hc, hp, ha, hz, ht⟩ := tile_of hb
    have := (tdiv_small (c := s.c) (t := x) (by omega) (by omega) hc.1).2
    simp only [if_true, SV.faceK, Bool.not_true, decide_eq_false_iff_not]
    split <;> omega
noncomputable def hpD (s : SV) (t : Nat → Int) : AH := ⟨4, [(3, .cells false s.cs), (2, .ints t), (1, .ints s.h), (0, .ints s.g)]⟩
noncomputable def I16 (s : SV) (t : Nat → Int) (n : Nat) (m : Nat) (A : AF) (H : AH) : Prop := ∃ (i : Nat), i + m = n ∧ tErr s t m i = tErr s t n 0 ∧ A.tm.n = 27 ∧ A.marks = [] ∧ A.tm.get 5 = .int .i64 (i : Int) ∧ A.tm.get 1 = sl2 n ∧ A.tm.get 2 = .pointer (some ⟨3, 0, none⟩) ∧ H = hpD s t
noncomputable def Q16 (s : SV) (t : Nat → Int) (n : Nat) (y : AX) (A' : AF) (_ : AH) : Prop := A'.tm.n = 27 ∧ A'.marks = [] ∧ ((y = .exit 0 ∧ tErr s t n 0 = 0) ∨ (y = .ret ∧ A'.tm.get 4 = .int .i64 (tErr s t n 0)))

set_option maxRecDepth 10000 in
set_option maxHeartbeats 8000000 in
theorem rct_ev (call : Value → List Value → AH → Option (Value × AH)) (s : SV) (t : Nat → Int) (n : Nat) (hn : n ≤ 200) (h18 : ∀ (x : Int) (H : AH), lookB H.bs 0 = some (.ints s.g) → lookB H.bs 1 = some (.ints s.h) → call (.func (.func 17) #[] #[]) [s.val, .int .i64 x] H = some (.int .i64 (s.kindOf x), H)) (h35 : ∀ (i n : Nat) (g : Nat → Int) (x : Int) (H : AH), lookB H.bs i = some (.ints g) → call (.func (.func 56) #[] #[]) [.slice (some ⟨i, 0, some 1⟩) n 0, .int .i64 x] H = some (.bool (hasG g n x), H)) : ∃ H', evFn (tabT Try.prog) call 300 kpT 94 Try.f94 [s.val, sl2 n] (hpT s t) = some (.int .i64 (tErr s t n 0), H') := by
  simp only [SV.val] at h18
  have h35' := fun (k : Nat) (x : Int) (H : AH) => h35 2 k t x H
  simp only [evFn, Try.f94, SV.val, hpT, sl2]
  simp [ec_skip, ec_label, ek_reg, ek_draw, ek_seq, ec_cond, ek_block, ec_loop, ec_exit, ec_ret, ec_scope, ek_nil, ek_op, opK_some, regK_some, seqK_normal, seqK_exit, seqK_ret, blockK_normal, blockK_exit, blockK_ret, evOp, vOp, hOpB, hOpU, hOp, hOpT, aAppendG_tab, aWanted, aYielded, opd, putT, closedV, aBin, intOp, sameK, mapO, joinR, hasAddr, boundOf, pushB, aAlloc, Value.cells, lookB, setB, Nat.beq_eq, tm_n_set, tm_get_set, tm_of_n, tm_of_get, tm_tr_set, tm_tr_of, cellV, putF, appR_eq, takeR_eq, dropR_eq, setR_eq, getR_eq, ↓C75, ↓C76, ↓C77, ↓C79, ↓C17, ↓C18, ↓C22, ↓C71, FA24_0, FA24_1, FA24_2, FA24_3, FA24_4, FA24_5, FA24_6, FA24_7, FA24_8, LD3, LD4, LD22, LD27, LDr, LD24, LEN22, IA22, tkc, cellAt, SV.cs, hpD, sl2, ↓Ckind, ↓Chas]
  generalize hr : evLoop _ _ _ _ = r
  obtain ⟨y, A', H', rfl, hl, hmk, hx⟩ := loop_go (Q := Q16 s t n) hr (I16 s t n) n (by omega) ⟨0, by omega, rfl, rfl, rfl, rfl, rfl, rfl, rfl⟩ (by
    clear hr
    rintro m A H ⟨i, him, hres, hl, hmk, h5, h1, h2, rfl⟩
    simp only [runC]
    cases m with
    | zero =>
      have hi : ¬ i < n := by omega
      rw [tErr] at hres
      simp [ec_skip, ec_label, ek_reg, ek_draw, ek_seq, ec_cond, ek_block, ec_loop, ec_exit, ec_ret, ec_scope, ek_nil, ek_op, opK_some, regK_some, seqK_normal, seqK_exit, seqK_ret, blockK_normal, blockK_exit, blockK_ret, evOp, vOp, hOpB, hOpU, hOp, hOpT, aAppendG_tab, aWanted, aYielded, opd, putT, closedV, aBin, intOp, sameK, mapO, joinR, hasAddr, boundOf, pushB, aAlloc, Value.cells, lookB, setB, Nat.beq_eq, tm_n_set, tm_get_set, tm_of_n, tm_of_get, tm_tr_set, tm_tr_of, cellV, putF, appR_eq, takeR_eq, dropR_eq, setR_eq, getR_eq, ↓C75, ↓C76, ↓C77, ↓C79, ↓C17, ↓C18, ↓C22, ↓C71, FA24_0, FA24_1, FA24_2, FA24_3, FA24_4, FA24_5, FA24_6, FA24_7, FA24_8, LD3, LD4, LD22, LD27, LDr, LD24, LEN22, IA22, tkc, cellAt, SV.cs, hpD, sl2, ↓Ckind, ↓Chas, hl, hmk, h5, h1, h2, hi]
      exact .inr ⟨by simp, by simp [tm_n_set, hl], rfl, .inl ⟨rfl, hres.symm⟩⟩
    | succ m =>
      have hi : i < n := by omega
      have hw : wrapI .i64 ((i : Int) + 1) = ((i + 1 : Nat) : Int) := by rw [wrapI_small (by omega) (by omega)]; rfl
      have hsl := SL22 2 n i (by omega)
      have hk := kindOf_neg s (t i)
      rw [tErr] at hres
      simp [ec_skip, ec_label, ek_reg, ek_draw, ek_seq, ec_cond, ek_block, ec_loop, ec_exit, ec_ret, ec_scope, ek_nil, ek_op, opK_some, regK_some, seqK_normal, seqK_exit, seqK_ret, blockK_normal, blockK_exit, blockK_ret, evOp, vOp, hOpB, hOpU, hOp, hOpT, aAppendG_tab, aWanted, aYielded, opd, putT, closedV, aBin, intOp, sameK, mapO, joinR, hasAddr, boundOf, pushB, aAlloc, Value.cells, lookB, setB, Nat.beq_eq, tm_n_set, tm_get_set, tm_of_n, tm_of_get, tm_tr_set, tm_tr_of, cellV, putF, appR_eq, takeR_eq, dropR_eq, setR_eq, getR_eq, ↓C75, ↓C76, ↓C77, ↓C79, ↓C17, ↓C18, ↓C22, ↓C71, FA24_0, FA24_1, FA24_2, FA24_3, FA24_4, FA24_5, FA24_6, FA24_7, FA24_8, LD3, LD4, LD22, LD27, LDr, LD24, LEN22, IA22, tkc, cellAt, SV.cs, hpD, sl2, ↓Ckind, ↓Chas, hl, hmk, h5, h1, h2, hi]
      generalize hX : evDrawX _ _ _ _ _ = X
      obtain ⟨tm, rfl, hn', t18, t5, t1, t2⟩ := draw_ro (Pt := fun tm => tm.get 18 = .bool (!s.inB (t i)) ∧ tm.get 5 = .int .i64 (i : Int) ∧ tm.get 1 = .slice (some ⟨2, 0, some 1⟩) n 0 ∧ tm.get 2 = .pointer (some ⟨3, 0, none⟩)) hX (by kernel_rfl) (by simp [decrK, Nat.blt_eq]) (by
        clear hX
        generalize befs _ = M
        simp [mapO, drRun, drOp, dr3, looks, guardT, tmpsOf, Op.operands, Call.operands, wantedR, gOf, finT, natMem, isNil, writesF, evOp, vOp, hOpB, hOpU, hOp, hOpT, aAppendG_tab, opd, closedV, aBin, intOp, sameK, opdO, boundOf, undef, lookB, Nat.beq_eq, tm_n_set, tm_get_set, tm_of_n, tm_of_get, tm_tr_set, tm_tr_of, b02, b12, b32, ↓G75, W75, ↓G76, W76, ↓G77, W77, ↓G79, W79, ↓G17, W17, ↓G18, W18, ↓G22, W22, ↓G71, W71, tv, all1, roB, roK, news, newOnes, decr, tkc, cellAt, LD3, LD4, LD22, LD27, LDr, LD24, LEN22, IA22, ↓Gkind, ↓Ghas, Wkind, Whas, SV.cs, sl2, hl, h5, h1, h2, hi, h18, hk, Nat.ble_eq, hasR]
        refine ⟨by simp [dynOK, b02, b12, b32], by simp [wheap, news, b02, b12, b32]⟩)
      clear hX
      simp [tm_n_set, hl] at hn'
      cases c2 : s.inB (t i) with
      | false =>
        rw [if_pos c2] at hres
        rw [c2] at t18
        simp [ec_skip, ec_label, ek_reg, ek_draw, ek_seq, ec_cond, ek_block, ec_loop, ec_exit, ec_ret, ec_scope, ek_nil, ek_op, opK_some, regK_some, seqK_normal, seqK_exit, seqK_ret, blockK_normal, blockK_exit, blockK_ret, evOp, vOp, hOpB, hOpU, hOp, hOpT, aAppendG_tab, aWanted, aYielded, opd, putT, closedV, aBin, intOp, sameK, mapO, joinR, hasAddr, boundOf, pushB, aAlloc, Value.cells, lookB, setB, Nat.beq_eq, tm_n_set, tm_get_set, tm_of_n, tm_of_get, tm_tr_set, tm_tr_of, cellV, putF, appR_eq, takeR_eq, dropR_eq, setR_eq, getR_eq, ↓C75, ↓C76, ↓C77, ↓C79, ↓C17, ↓C18, ↓C22, ↓C71, FA24_0, FA24_1, FA24_2, FA24_3, FA24_4, FA24_5, FA24_6, FA24_7, FA24_8, LD3, LD4, LD22, LD27, LDr, LD24, LEN22, IA22, tkc, cellAt, SV.cs, hpD, sl2, ↓Ckind, ↓Chas, hmk, hn', t18, t5, t1, t2]
        exact ⟨_, _, _, ⟨rfl, rfl, rfl⟩, .inr ⟨by simp, by simp [tm_n_set, hn'], rfl, .inr ⟨rfl, by simp [tm_get_set, tm_n_set, hn', ← hres]⟩⟩⟩
      | true =>
        rw [if_neg (by simp [c2])] at hres
        rw [c2] at t18
        simp [ec_skip, ec_label, ek_reg, ek_draw, ek_seq, ec_cond, ek_block, ec_loop, ec_exit, ec_ret, ec_scope, ek_nil, ek_op, opK_some, regK_some, seqK_normal, seqK_exit, seqK_ret, blockK_normal, blockK_exit, blockK_ret, evOp, vOp, hOpB, hOpU, hOp, hOpT, aAppendG_tab, aWanted, aYielded, opd, putT, closedV, aBin, intOp, sameK, mapO, joinR, hasAddr, boundOf, pushB, aAlloc, Value.cells, lookB, setB, Nat.beq_eq, tm_n_set, tm_get_set, tm_of_n, tm_of_get, tm_tr_set, tm_tr_of, cellV, putF, appR_eq, takeR_eq, dropR_eq, setR_eq, getR_eq, ↓C75, ↓C76, ↓C77, ↓C79, ↓C17, ↓C18, ↓C22, ↓C71, FA24_0, FA24_1, FA24_2, FA24_3, FA24_4, FA24_5, FA24_6, FA24_7, FA24_8, LD3, LD4, LD22, LD27, LDr, LD24, LEN22, IA22, tkc, cellAt, SV.cs, hpD, sl2, ↓Ckind, ↓Chas, hmk, hn', t18, t5, t1, t2]
        generalize hX : evDrawX _ _ _ _ _ = X
        obtain ⟨tm, rfl, hn2, t26, u5, u1, u2⟩ := draw_ro (Pt := fun tm => tm.get 26 = .bool (hasG t i (t i)) ∧ tm.get 5 = .int .i64 (i : Int) ∧ tm.get 1 = .slice (some ⟨2, 0, some 1⟩) n 0 ∧ tm.get 2 = .pointer (some ⟨3, 0, none⟩)) hX (by kernel_rfl) (by simp [decrK, Nat.blt_eq]) (by
          clear hX
          generalize befs _ = M
          simp [mapO, drRun, drOp, dr3, looks, guardT, tmpsOf, Op.operands, Call.operands, wantedR, gOf, finT, natMem, isNil, writesF, evOp, vOp, hOpB, hOpU, hOp, hOpT, aAppendG_tab, opd, closedV, aBin, intOp, sameK, opdO, boundOf, undef, lookB, Nat.beq_eq, tm_n_set, tm_get_set, tm_of_n, tm_of_get, tm_tr_set, tm_tr_of, b02, b12, b32, ↓G75, W75, ↓G76, W76, ↓G77, W77, ↓G79, W79, ↓G17, W17, ↓G18, W18, ↓G22, W22, ↓G71, W71, tv, all1, roB, roK, news, newOnes, decr, tkc, cellAt, LD3, LD4, LD22, LD27, LDr, LD24, LEN22, IA22, ↓Gkind, ↓Ghas, Wkind, Whas, SV.cs, sl2, hn', t5, t1, t2, hi, hsl, h35', Nat.ble_eq, hasR]
          refine ⟨by simp [dynOK, b02, b12, b32], by simp [wheap, news, b02, b12, b32]⟩)
        clear hX
        simp [tm_n_set, hn'] at hn2
        cases c3 : hasG t i (t i) with
        | true =>
          rw [if_pos c3] at hres
          rw [c3] at t26
          simp [ec_skip, ec_label, ek_reg, ek_draw, ek_seq, ec_cond, ek_block, ec_loop, ec_exit, ec_ret, ec_scope, ek_nil, ek_op, opK_some, regK_some, seqK_normal, seqK_exit, seqK_ret, blockK_normal, blockK_exit, blockK_ret, evOp, vOp, hOpB, hOpU, hOp, hOpT, aAppendG_tab, aWanted, aYielded, opd, putT, closedV, aBin, intOp, sameK, mapO, joinR, hasAddr, boundOf, pushB, aAlloc, Value.cells, lookB, setB, Nat.beq_eq, tm_n_set, tm_get_set, tm_of_n, tm_of_get, tm_tr_set, tm_tr_of, cellV, putF, appR_eq, takeR_eq, dropR_eq, setR_eq, getR_eq, ↓C75, ↓C76, ↓C77, ↓C79, ↓C17, ↓C18, ↓C22, ↓C71, FA24_0, FA24_1, FA24_2, FA24_3, FA24_4, FA24_5, FA24_6, FA24_7, FA24_8, LD3, LD4, LD22, LD27, LDr, LD24, LEN22, IA22, tkc, cellAt, SV.cs, hpD, sl2, ↓Ckind, ↓Chas, hmk, hn2, t26, u5, u1, u2]
          exact ⟨_, _, _, ⟨rfl, rfl, rfl⟩, .inr ⟨by simp, by simp [tm_n_set, hn2], rfl, .inr ⟨rfl, by simp [tm_get_set, tm_n_set, hn2, ← hres]⟩⟩⟩
        | false =>
          rw [if_neg (by simp [c3])] at hres
          rw [c3] at t26
          simp [ec_skip, ec_label, ek_reg, ek_draw, ek_seq, ec_cond, ek_block, ec_loop, ec_exit, ec_ret, ec_scope, ek_nil, ek_op, opK_some, regK_some, seqK_normal, seqK_exit, seqK_ret, blockK_normal, blockK_exit, blockK_ret, evOp, vOp, hOpB, hOpU, hOp, hOpT, aAppendG_tab, aWanted, aYielded, opd, putT, closedV, aBin, intOp, sameK, mapO, joinR, hasAddr, boundOf, pushB, aAlloc, Value.cells, lookB, setB, Nat.beq_eq, tm_n_set, tm_get_set, tm_of_n, tm_of_get, tm_tr_set, tm_tr_of, cellV, putF, appR_eq, takeR_eq, dropR_eq, setR_eq, getR_eq, ↓C75, ↓C76, ↓C77, ↓C79, ↓C17, ↓C18, ↓C22, ↓C71, FA24_0, FA24_1, FA24_2, FA24_3, FA24_4, FA24_5, FA24_6, FA24_7, FA24_8, LD3, LD4, LD22, LD27, LDr, LD24, LEN22, IA22, tkc, cellAt, SV.cs, hpD, sl2, ↓Ckind, ↓Chas, hmk, hn2, t26, u5, u1, u2]
          refine ⟨_, _, _, ⟨rfl, rfl, rfl⟩, .inl ⟨rfl, m, rfl, i + 1, by omega, hres, ?_⟩⟩
          simp [hpD, SV.cs, sl2, tm_get_set, tm_n_set, hn2, u5, u1, u2, hw])
  rcases hx with ⟨rfl, hx⟩ | ⟨rfl, hx⟩
  · simp [ec_skip, ec_label, ek_reg, ek_draw, ek_seq, ec_cond, ek_block, ec_loop, ec_exit, ec_ret, ec_scope, ek_nil, ek_op, opK_some, regK_some, seqK_normal, seqK_exit, seqK_ret, blockK_normal, blockK_exit, blockK_ret, evOp, vOp, hOpB, hOpU, hOp, hOpT, aAppendG_tab, aWanted, aYielded, opd, putT, closedV, aBin, intOp, sameK, mapO, joinR, hasAddr, boundOf, pushB, aAlloc, Value.cells, lookB, setB, Nat.beq_eq, tm_n_set, tm_get_set, tm_of_n, tm_of_get, tm_tr_set, tm_tr_of, cellV, putF, appR_eq, takeR_eq, dropR_eq, setR_eq, getR_eq, ↓C75, ↓C76, ↓C77, ↓C79, ↓C17, ↓C18, ↓C22, ↓C71, FA24_0, FA24_1, FA24_2, FA24_3, FA24_4, FA24_5, FA24_6, FA24_7, FA24_8, LD3, LD4, LD22, LD27, LDr, LD24, LEN22, IA22, tkc, cellAt, hl, hmk, hx, finF, takeM, resV]
  · simp [ec_skip, ec_label, ek_reg, ek_draw, ek_seq, ec_cond, ek_block, ec_loop, ec_exit, ec_ret, ec_scope, ek_nil, ek_op, opK_some, regK_some, seqK_normal, seqK_exit, seqK_ret, blockK_normal, blockK_exit, blockK_ret, evOp, vOp, hOpB, hOpU, hOp, hOpT, aAppendG_tab, aWanted, aYielded, opd, putT, closedV, aBin, intOp, sameK, mapO, joinR, hasAddr, boundOf, pushB, aAlloc, Value.cells, lookB, setB, Nat.beq_eq, tm_n_set, tm_get_set, tm_of_n, tm_of_get, tm_tr_set, tm_tr_of, cellV, putF, appR_eq, takeR_eq, dropR_eq, setR_eq, getR_eq, ↓C75, ↓C76, ↓C77, ↓C79, ↓C17, ↓C18, ↓C22, ↓C71, FA24_0, FA24_1, FA24_2, FA24_3, FA24_4, FA24_5, FA24_6, FA24_7, FA24_8, LD3, LD4, LD22, LD27, LDr, LD24, LEN22, IA22, tkc, cellAt, hl, hmk, hx, finF, takeM, resV]


end

section
set_option linter.unusedSimpArgs false
set_option linter.unusedVariables false


/-- Answers that hang on a set and a list. -/
noncomputable def ansST (a : SV → (Nat → Int) → Nat → Option Value) : List Value → AH → Option Value
  | [v, .slice (some ⟨2, 0, some 1⟩) n 0], ⟨3, [(2, .ints t), (1, .ints h), (0, .ints g)]⟩ => match seeSet v ⟨2, [(1, .ints h), (0, .ints g)]⟩ with
    | some s => a s t n
    | none => none
  | _, _ => none
theorem ansST_ok {call0 : Hnd} {f : FuncId} {a : SV → (Nat → Int) → Nat → Option Value} (h : ∀ s t n v, a s t n = some v → closedV 5 v = true ∧ (n ≤ 200 → ∃ H', call0 (.func (.func f) #[] #[]) [s.val, sl2 n] (hpT s t) = some (v, H'))) : AnsOK call0 f (ansST a) := by
  intro cargs Hc v hv
  unfold ansST at hv
  split at hv
  · rename_i v0 n t h0 g0
    split at hv
    · rename_i s hs
      obtain ⟨rfl, e⟩ := seeSet_spec hs
      unfold SV.hp at e
      simp only [AH.mk.injEq, List.cons.injEq, Prod.mk.injEq, ABlk.ints.injEq, true_and, and_true] at e
      obtain ⟨rfl, rfl⟩ := e
      exact ⟨(h s t n v hv).1, fun hr => (h s t n v hv).2 (hr.len (j := 1) (i := 2) (g := t) rfl rfl)⟩
    · cases hv
  · cases hv
theorem canH_st {f : FuncId} {a : SV → (Nat → Int) → Nat → Option Value} {s : SV} {t : Nat → Int} {n : Nat} {H : AH} (h0 : lookB H.bs 0 = some (.ints s.g)) (h1 : lookB H.bs 1 = some (.ints s.h)) (h2 : lookB H.bs 2 = some (.ints t)) : canH f (ansST a) (.func (.func f) #[] #[]) [s.val, sl2 n] H = (a s t n).map (·, H) := by
  have e : canon [s.val, sl2 n] H = some ([s.val, sl2 n], hpT s t) := by
    simp [canon, canonL, canonV, idOf, idxOf, SV.val, sl2, canonB, h0, h1, h2, hpT]
  simp only [canH, Nat.beq_refl, if_true, e]
  show (match a s t n with | some v => some (v, H) | none => none) = _
  cases a s t n <;> rfl

theorem ok12 : AnsOK (runH R2) 83 (ansST fun s t n => some (.int .i64 (s.ct t n))) := ansST_ok fun s t n v h => by
  cases h
  refine ⟨rfl, fun hn => ?_⟩
  obtain ⟨H', h⟩ := ct_ev (inH R2) s t n hn (fun H h0 h1 => inH_hd (R2_check s H h0 h1)) (fun H h0 h1 => inH_hd (R2_size s H h0 h1)) (fun n l m H => inH_hd (R2_btw n l m H))
  exact ⟨H', runH_fn F12 rfl h⟩
theorem ok16 : AnsOK (runH R2) 94 (ansST fun s t n => some (.int .i64 (tErr s t n 0))) := ansST_ok fun s t n v h => by
  cases h
  refine ⟨rfl, fun hn => ?_⟩
  obtain ⟨H', h⟩ := rct_ev (inH R2) s t n hn (fun x H h0 h1 => inH_hd (R2_kind s x H h0 h1)) (fun i n g x H h => inH_hd (R2_rhas i n g x H h))
  exact ⟨H', runH_fn F16 rfl h⟩
noncomputable def R3 : Hnd := orH (canH 83 (ansST fun s t n => some (.int .i64 (s.ct t n)))) (orH (canH 94 (ansST fun s t n => some (.int .i64 (tErr s t n 0)))) R2)
theorem R3_ok : CallOK Try.prog R3 := orH_ok (canH_ok (runH_ok R2_ok) ok12) (orH_ok (canH_ok (runH_ok R2_ok) ok16) R2_ok)
theorem R3_ct (s : SV) (t : Nat → Int) (n : Nat) (H : AH) (h0 : lookB H.bs 0 = some (.ints s.g)) (h1 : lookB H.bs 1 = some (.ints s.h)) (h2 : lookB H.bs 2 = some (.ints t)) : R3 (.func (.func 83) #[] #[]) [s.val, sl2 n] H = some (.int .i64 (s.ct t n), H) :=
  orH_l (by rw [canH_st h0 h1 h2]; rfl)
end

section
set_option linter.unusedSimpArgs false
set_option linter.unusedVariables false


end

section
set_option linter.unusedSimpArgs false
set_option linter.unusedVariables false

theorem b03 : Nat.beq 0 3 = false := rfl
theorem b13 : Nat.beq 1 3 = false := rfl
theorem b23 : Nat.beq 2 3 = false := rfl
theorem look_none : ∀ (bs : List (Nat × ABlk)) (i : Nat), (∀ p ∈ bs, p.1 < i) → lookB (roB bs) i = none
  | [], _, _ => rfl
  | (j, k) :: r, i, h => by
    have ih := look_none r i fun p hp => h p (List.mem_cons_of_mem _ hp)
    have hj : ¬ i = j := by have := h (j, k) List.mem_cons_self; simp only at this; omega
    simp only [roB]
    split
    · simp only [lookB, Nat.beq_eq, hj, if_false, ih]
    · exact ih
theorem newOnes_ro : ∀ (bs : List (Nat × ABlk)) (i : Nat), (∀ p ∈ bs, p.1 < i) → newOnes i (roB bs) = []
  | [], _, _ => rfl
  | (j, k) :: r, i, h => by
    have ih := newOnes_ro r i fun p hp => h p (List.mem_cons_of_mem _ hp)
    have hj : ¬ i ≤ j := by have := h (j, k) List.mem_cons_self; simp only at this; omega
    simp only [roB]
    split
    · simp [newOnes, Nat.ble_eq, hj]
    · exact ih
theorem hasR_ro : ∀ bs : List (Nat × ABlk), hasR (roB bs) = false
  | [] => rfl
  | (j, k) :: r => by
    have ih := hasR_ro r
    cases k <;> simp [roB, roK, hasR, ih]
theorem Nbelow : ((tabT Try.prog) 50).map (fun z => z.ex.nat 95) = some none := by kernel_rfl
theorem Cbelow (call : Value → List Value → AH → Option (Value × AH)) {tm : Tm} {i j : Nat} {H : AH} {d : Option Tmp} {t : TypeId} {p : String} {a : Array Edge} {gd : Option (Nat × Bool)} : evOp (tabT Try.prog) call ⟨d, .call ⟨.value (.func 95), #[.tmp i, .tmp j], #[50, 3]⟩, t, p, a, gd⟩ (opd tm) H = call (.func (.func 95) #[] #[]) [tm.get i, tm.get j] H :=
  evOp_evO.trans (eo_call2n rfl rfl rfl Nbelow)
theorem Crange (call : Value → List Value → AH → Option (Value × AH)) {tm : Tm} {i j k : Nat} {H : AH} {d : Option Tmp} {t : TypeId} {p : String} {a : Array Edge} {gd : Option (Nat × Bool)} : evOp (tabT Try.prog) call ⟨d, .call ⟨.value (.func 79), #[.tmp i, .tmp j, .tmp k], #[50, 3, 3]⟩, t, p, a, gd⟩ (opd tm) H = call (.func (.func 79) #[] #[]) [tm.get i, tm.get j, tm.get k] H :=
  evOp_evO.trans (eo_call3 rfl rfl rfl rfl)
theorem Nodds : ((tabT Try.prog) 50).map (fun z => z.ex.nat 77) = some none := by kernel_rfl
theorem LDu (H : AH) (i off : Nat) : aLoad (tabT Try.prog) H 48 (.pointer (some ⟨i, off, none⟩)) = cellAt H.bs i off := ldc (by kernel_rfl) H i off
theorem STu (H : AH) (i off : Nat) (v : Value) : aStore (tabT Try.prog) H 48 (.pointer (some ⟨i, off, none⟩)) v = match lookB H.bs i with
    | some (.cells false cs) => if Nat.beq v.cells.toList.length 1 && Nat.ble (off + v.cells.toList.length) cs.length && v.cells.toList.all cellV then some { H with bs := setB H.bs i (.cells false (putF cs off v.cells.toList)) } else none
    | _ => none := sti (by kernel_rfl) H i off v
theorem FAs (i : Nat) : aFieldAddr (tabT Try.prog) 104 (.pointer (some ⟨i, 0, none⟩)) 0 = some (.pointer (some ⟨i, 0, none⟩)) := by kernel_rfl
theorem kp65 : (kpT 95, gcT 95) = (true, false) := by kernel_rfl
theorem kp49 : (kpT 79, gcT 79) = (true, false) := by kernel_rfl
theorem kp47 : (kpT 77, gcT 77) = (true, false) := by kernel_rfl

noncomputable def sB (x : Int) : ABlk := .cells false [.int .u64 x]
noncomputable def stB (x : Int) : Int := wrapI .u64 (wrapI .u64 (x * 15074714826142052245) + 7146057691288625177)
noncomputable def rawB (x : Int) : Int := (bits .xor .u64 x (x.fdiv 2147483648)).fdiv 1048576
noncomputable def belV (x : Int) (n : Nat) : Int := wrapI .i64 ((rawB (stB x)).tmod n)
theorem bits_bd (op : BinOp) (a b : Int) : 0 ≤ bits op .u64 a b ∧ bits op .u64 a b < 18446744073709551616 := by
  simp only [bits, IntKind.wrap, IntKind.signed, IntKind.bits]
  simp
  omega
theorem raw_bd (x : Int) : 0 ≤ rawB x ∧ rawB x < 18446744073709551616 := by
  have h := bits_bd .xor x (x.fdiv 2147483648)
  unfold rawB
  rw [Int.fdiv_eq_ediv_of_nonneg _ (by omega)]
  omega
theorem belV_bd (x : Int) {n : Nat} (h1 : 1 ≤ n) (h2 : n ≤ 1000) : 0 ≤ belV x n ∧ belV x n < n := by
  have h := raw_bd (stB x)
  have ht : (rawB (stB x)).tmod n = rawB (stB x) % n := Int.tmod_eq_emod_of_nonneg h.1
  have hm0 := Int.emod_nonneg (rawB (stB x)) (show (n : Int) ≠ 0 by omega)
  have hm1 := Int.emod_lt_of_pos (rawB (stB x)) (show (0 : Int) < n by omega)
  unfold belV
  rw [ht, wrapI_small (by omega) (by omega)]
  omega
theorem wrapUn {n : Nat} (h : n ≤ 1000) : wrapI .u64 (n : Int) = n := by simp only [wrapI]; omega
theorem SH31 (x : Int) : shOp .shr .u64 x 31 = some (.int .u64 (x.fdiv 2147483648)) := by
  simp [shOp, IntKind.bits]
theorem SH20 (x : Int) : shOp .shr .u64 x 20 = some (.int .u64 (x.fdiv 1048576)) := by
  simp [shOp, IntKind.bits]
set_option maxRecDepth 10000 in
set_option maxHeartbeats 8000000 in
theorem below_ev {L : Nat} (call : Value → List Value → AH → Option (Value × AH)) (p N : Nat) (bs : List (Nat × ABlk)) (x : Int) (n : Nat) (h1 : 1 ≤ n) (h2 : n ≤ 1000) (hM : MI ⟨N, bs⟩) (h : lookB bs p = some (sB x)) :
    evFn (tabT Try.prog) call (L + 300) kpT 95 Try.f95 [.pointer (some ⟨p, 0, none⟩), .int .i64 (n : Int)] ⟨N, bs⟩ = some (.int .i64 (belV x n), ⟨N, setB bs p (sB (stB x))⟩) := by
  have kp := kp65
  simp only [Prod.mk.injEq] at kp
  obtain ⟨kp1, kp2⟩ := kp
  have wu := wrapUn h2
  have n0 : ¬ (n : Int) = 0 := by omega
  have nz : ¬ n = 0 := by omega
  have n1 : ¬ (n : Int) < 1 := by omega
  have n1' : ¬ n < 1 := by omega
  unfold sB at h
  simp only [evFn, Try.f95]
  simp [ec_skip, ec_label, ek_reg, ek_draw, ek_seq, ec_cond, ek_block, ec_loop, ec_exit, ec_ret, ec_scope, ek_nil, ek_op, opK_some, regK_some, seqK_normal, seqK_exit, seqK_ret, blockK_normal, blockK_exit, blockK_ret, evOp, vOp, hOpB, hOpU, hOp, hOpT, aAppendG_tab, aWanted, aYielded, opd, putT, closedV, aBin, intOp, sameK, mapO, joinR, hasAddr, boundOf, pushB, aAlloc, Value.cells, lookB, setB, Nat.beq_eq, tm_n_set, tm_get_set, tm_of_n, tm_of_get, tm_tr_set, tm_tr_of, cellV, putF, appR_eq, takeR_eq, dropR_eq, setR_eq, getR_eq, ↓C75, ↓C76, ↓C77, ↓C79, ↓C17, ↓C18, ↓C22, ↓C71, FA24_0, FA24_1, FA24_2, FA24_3, FA24_4, FA24_5, FA24_6, FA24_7, FA24_8, LD3, LD4, LD22, LD27, LDr, LD24, LEN22, IA22, tkc, cellAt, FAs, LDu, STu, h, lookB_setB, n1, n1']
  have h3 : ((tabT Try.prog) 3).map (·.desc) = some (.int .i64) := by kernel_rfl
  have h65 : ((tabT Try.prog) 48).map (·.desc) = some (.int .u64) := by kernel_rfl
  obtain ⟨_, _, _, _, t3⟩ := tdesc h3
  obtain ⟨_, _, _, _, t65⟩ := tdesc h65
  clear h3 h65
  generalize hX : evDrawX _ _ _ _ _ = X
  have hl2 : lookB (setB bs p (.cells false [.int .u64 (stB x)])) p = some (.cells false [.int .u64 (stB x)]) := by rw [lookB_setB, if_pos rfl, h]; rfl
  have hd2 : decrK (setB bs p (.cells false [.int .u64 (stB x)])) = true := (hM.set p _).1
  have rb := lookB_roB_cells _ _ _ _ hl2 hd2
  have nw := newOnes_ro _ N (hM.set p (.cells false [.int .u64 (stB x)])).2
  have s31 := SH31 (stB x)
  have s20 := SH20 (bits .xor .u64 (stB x) ((stB x).fdiv 2147483648))
  simp only [stB] at hl2 hd2 rb nw s31 s20
  obtain ⟨tm, rfl, hn', t4⟩ := draw_ro (Pt := fun tm => tm.get 4 = .int .i64 (belV x n)) hX (by kernel_rfl) hd2 (by
    clear hX
    generalize befs _ = M
    simp [mapO, drRun, drOp, dr3, looks, guardT, tmpsOf, Op.operands, Call.operands, wantedR, gOf, finT, natMem, isNil, writesF, evOp, vOp, hOpB, hOpU, hOp, hOpT, aAppendG_tab, opd, closedV, aBin, intOp, sameK, opdO, boundOf, undef, lookB, Nat.beq_eq, tm_n_set, tm_get_set, tm_of_n, tm_of_get, tm_tr_set, tm_tr_of, b02, b12, b32, ↓G75, W75, ↓G76, W76, ↓G77, W77, ↓G79, W79, ↓G17, W17, ↓G18, W18, ↓G22, W22, ↓G71, W71, tv, all1, roB, roK, news, newOnes, decr, tkc, cellAt, LD3, LD4, LD22, LD27, LDr, LD24, LEN22, IA22, FAs, LDu, t3, t65, rb, nw, s31, s20, wu, n0, nz, tm_of_n, tm_of_get, belV, rawB, stB]
    refine ⟨by simp [dynOK, b02, b12, b32, Nat.blt_eq, tm_n_set, tm_of_n], by simp [wheap, news, b02, b12, b32]⟩)
  simp [tm_n_set] at hn'
  simp [ec_skip, ec_label, ek_reg, ek_draw, ek_seq, ec_cond, ek_block, ec_loop, ec_exit, ec_ret, ec_scope, ek_nil, ek_op, opK_some, regK_some, seqK_normal, seqK_exit, seqK_ret, blockK_normal, blockK_exit, blockK_ret, evOp, vOp, hOpB, hOpU, hOp, hOpT, aAppendG_tab, aWanted, aYielded, opd, putT, closedV, aBin, intOp, sameK, mapO, joinR, hasAddr, boundOf, pushB, aAlloc, Value.cells, lookB, setB, Nat.beq_eq, tm_n_set, tm_get_set, tm_of_n, tm_of_get, tm_tr_set, tm_tr_of, cellV, putF, appR_eq, takeR_eq, dropR_eq, setR_eq, getR_eq, ↓C75, ↓C76, ↓C77, ↓C79, ↓C17, ↓C18, ↓C22, ↓C71, FA24_0, FA24_1, FA24_2, FA24_3, FA24_4, FA24_5, FA24_6, FA24_7, FA24_8, LD3, LD4, LD22, LD27, LDr, LD24, LEN22, IA22, tkc, cellAt, hn', t4, sB, stB, finF, takeM, resV, cleanedG, hasAddr, kp1, kp2]

noncomputable def rngV (x : Int) (lo hi : Nat) : Int := (lo : Int) + belV x (hi - lo + 1)
theorem rngV_bd (x : Int) {lo hi : Nat} (h1 : lo ≤ hi) (h2 : hi ≤ 900) : (lo : Int) ≤ rngV x lo hi ∧ rngV x lo hi ≤ hi := by
  have := belV_bd x (n := hi - lo + 1) (by omega) (by omega)
  unfold rngV
  omega
set_option maxRecDepth 10000 in
set_option maxHeartbeats 8000000 in
theorem range_ev {L : Nat} (call : Value → List Value → AH → Option (Value × AH)) (p N : Nat) (bs : List (Nat × ABlk)) (x : Int) (lo hi : Nat) (h1 : lo ≤ hi) (h2 : hi ≤ 900)
    (hb : ∀ n : Nat, 1 ≤ n → n ≤ 1000 → call (.func (.func 95) #[] #[]) [.pointer (some ⟨p, 0, none⟩), .int .i64 (n : Int)] ⟨N, bs⟩ = some (.int .i64 (belV x n), ⟨N, setB bs p (sB (stB x))⟩)) :
    evFn (tabT Try.prog) call (L + 300) kpT 79 Try.f79 [.pointer (some ⟨p, 0, none⟩), .int .i64 (lo : Int), .int .i64 (hi : Int)] ⟨N, bs⟩ = some (.int .i64 (rngV x lo hi), ⟨N, setB bs p (sB (stB x))⟩) := by
  have kp := kp49
  simp only [Prod.mk.injEq] at kp
  obtain ⟨kp1, kp2⟩ := kp
  have hb' := hb (hi - lo + 1) (by omega) (by omega)
  have e1 : wrapI .i64 ((hi : Int) - lo) = (hi : Int) - lo := wrapI_small (by omega) (by omega)
  have e2 : wrapI .i64 ((hi : Int) - lo + 1) = (hi : Int) - lo + 1 := wrapI_small (by omega) (by omega)
  have e3 : ((hi - lo + 1 : Nat) : Int) = (hi : Int) - lo + 1 := by omega
  have hbd := belV_bd x (n := hi - lo + 1) (by omega) (by omega)
  have e4 : wrapI .i64 ((lo : Int) + belV x (hi - lo + 1)) = (lo : Int) + belV x (hi - lo + 1) := wrapI_small (by omega) (by omega)
  rw [e3] at hb'
  simp only [evFn, Try.f79]
  simp [ec_skip, ec_label, ek_reg, ek_draw, ek_seq, ec_cond, ek_block, ec_loop, ec_exit, ec_ret, ec_scope, ek_nil, ek_op, opK_some, regK_some, seqK_normal, seqK_exit, seqK_ret, blockK_normal, blockK_exit, blockK_ret, evOp, vOp, hOpB, hOpU, hOp, hOpT, aAppendG_tab, aWanted, aYielded, opd, putT, closedV, aBin, intOp, sameK, mapO, joinR, hasAddr, boundOf, pushB, aAlloc, Value.cells, lookB, setB, Nat.beq_eq, tm_n_set, tm_get_set, tm_of_n, tm_of_get, tm_tr_set, tm_tr_of, cellV, putF, appR_eq, takeR_eq, dropR_eq, setR_eq, getR_eq, ↓C75, ↓C76, ↓C77, ↓C79, ↓C17, ↓C18, ↓C22, ↓C71, FA24_0, FA24_1, FA24_2, FA24_3, FA24_4, FA24_5, FA24_6, FA24_7, FA24_8, LD3, LD4, LD22, LD27, LDr, LD24, LEN22, IA22, tkc, cellAt, ↓Cbelow, e1, e2, e4, hb', rngV, finF, takeM, resV, cleanedG, hasAddr, kp1, kp2]
noncomputable def oddV (x : Int) (n : Nat) : Bool := belV x n == 0
set_option maxRecDepth 10000 in
set_option maxHeartbeats 8000000 in
theorem odds_ev {L : Nat} (call : Value → List Value → AH → Option (Value × AH)) (p N : Nat) (bs : List (Nat × ABlk)) (x : Int) (n : Nat) (h1 : 1 ≤ n) (h2 : n ≤ 1000)
    (hb : ∀ n : Nat, 1 ≤ n → n ≤ 1000 → call (.func (.func 95) #[] #[]) [.pointer (some ⟨p, 0, none⟩), .int .i64 (n : Int)] ⟨N, bs⟩ = some (.int .i64 (belV x n), ⟨N, setB bs p (sB (stB x))⟩)) :
    evFn (tabT Try.prog) call (L + 300) kpT 77 Try.f77 [.pointer (some ⟨p, 0, none⟩), .int .i64 (n : Int)] ⟨N, bs⟩ = some (.bool (oddV x n), ⟨N, setB bs p (sB (stB x))⟩) := by
  have kp := kp47
  simp only [Prod.mk.injEq] at kp
  obtain ⟨kp1, kp2⟩ := kp
  have hb' := hb n h1 h2
  simp only [evFn, Try.f77]
  simp [ec_skip, ec_label, ek_reg, ek_draw, ek_seq, ec_cond, ek_block, ec_loop, ec_exit, ec_ret, ec_scope, ek_nil, ek_op, opK_some, regK_some, seqK_normal, seqK_exit, seqK_ret, blockK_normal, blockK_exit, blockK_ret, evOp, vOp, hOpB, hOpU, hOp, hOpT, aAppendG_tab, aWanted, aYielded, opd, putT, closedV, aBin, intOp, sameK, mapO, joinR, hasAddr, boundOf, pushB, aAlloc, Value.cells, lookB, setB, Nat.beq_eq, tm_n_set, tm_get_set, tm_of_n, tm_of_get, tm_tr_set, tm_tr_of, cellV, putF, appR_eq, takeR_eq, dropR_eq, setR_eq, getR_eq, ↓C75, ↓C76, ↓C77, ↓C79, ↓C17, ↓C18, ↓C22, ↓C71, FA24_0, FA24_1, FA24_2, FA24_3, FA24_4, FA24_5, FA24_6, FA24_7, FA24_8, LD3, LD4, LD22, LD27, LDr, LD24, LEN22, IA22, tkc, cellAt, ↓Cbelow, hb', oddV, finF, takeM, resV, cleanedG, hasAddr, kp1, kp2]


end

section
set_option linter.unusedSimpArgs false
set_option linter.unusedVariables false

end

section
set_option linter.unusedSimpArgs false
set_option linter.unusedVariables false

theorem LD37 (H : AH) (i off : Nat) : aLoad (tabT Try.prog) H 48 (.pointer (some ⟨i, off, none⟩)) = match lookB H.bs i with | some (.cells _ cs) => cs[off]? | _ => none := ldc (by kernel_rfl) H i off
theorem FA39_0 (i off : Nat) : aFieldAddr (tabT Try.prog) 104 (.pointer (some ⟨i, off, none⟩)) 0 = some (.pointer (some ⟨i, off + 0, none⟩)) := by kernel_rfl
theorem LENI (a : Option Addr) (n z : Nat) : aLen (tabT Try.prog) 22 (.slice a n z) = some (.int .i64 n) := lens (e := 3) (by kernel_rfl) a n z
theorem ST37 (H : AH) (i off : Nat) (v : Value) : aStore (tabT Try.prog) H 48 (.pointer (some ⟨i, off, none⟩)) v = match lookB H.bs i with
    | some (.cells false cs) => if Nat.beq v.cells.toList.length 1 && Nat.ble (off + v.cells.toList.length) cs.length && v.cells.toList.all cellV then some { H with bs := setB H.bs i (.cells false (putF cs off v.cells.toList)) } else none
    | _ => none := sti (by kernel_rfl) H i off v
theorem T3e : ∃ s b z ex, (tabT Try.prog) 3 = some ⟨s, b, z, .int .i64, ex⟩ := tdesc (by kernel_rfl)
theorem T37e : ∃ s b z ex, (tabT Try.prog) 48 = some ⟨s, b, z, .int .u64, ex⟩ := tdesc (by kernel_rfl)
theorem b64 : IntKind.u64.bits = 64 := rfl

set_option maxRecDepth 10000 in
set_option maxHeartbeats 8000000 in
theorem gc5 : gcT 37 = false := by kernel_rfl
noncomputable def intoX (n m : Int) : Int := if n.tmod m < 0 then wrapI .i64 (n.tmod m + m) else n.tmod m
theorem intoX_range (n m : Int) (h1 : 1 ≤ m) (h2 : m ≤ 1000000) : 0 ≤ intoX n m ∧ intoX n m < m := by
  unfold intoX
  have h3 : n.tmod m < m := Int.tmod_lt_of_pos n (by omega)
  have h4 : -m < n.tmod m := by
    have := Int.tmod_lt_of_pos (-n) (show 0 < m by omega)
    rw [Int.neg_tmod] at this
    omega
  split
  · rw [wrapI_small (by omega) (by omega)]; omega
  · omega
set_option maxRecDepth 10000 in
set_option maxHeartbeats 8000000 in
theorem into_ev {L : Nat} (call : Value → List Value → AH → Option (Value × AH)) {n m : Int} {H : AH} (h : ¬ m = 0) : ∃ H', evFn (tabT Try.prog) call (L + 300) kpT 42 Try.f42 [.int .i64 n, .int .i64 m] H = some (.int .i64 (intoX n m), H') := by
  simp only [evFn, Try.f42, intoX]
  by_cases c : n.tmod m < 0
  · simp [ec_skip, ec_label, ek_reg, ek_draw, ek_seq, ec_cond, ek_block, ec_loop, ec_exit, ec_ret, ec_scope, ek_nil, ek_op, opK_some, regK_some, seqK_normal, seqK_exit, seqK_ret, blockK_normal, blockK_exit, blockK_ret, evOp, vOp, hOpB, hOpU, hOp, hOpT, aAppendG_tab, aWanted, aYielded, opd, putT, closedV, aBin, intOp, sameK, mapO, joinR, hasAddr, boundOf, pushB, aAlloc, Value.cells, lookB, setB, Nat.beq_eq, tm_n_set, tm_get_set, tm_of_n, tm_of_get, tm_tr_set, tm_tr_of, cellV, putF, appR_eq, takeR_eq, dropR_eq, setR_eq, getR_eq, LD3, cellAt, tkc, LD3, LD37, FA39_0, LENI, ST37, lookB_setB, shOp, b64, finF, takeM, resV, h, c]
  · simp [ec_skip, ec_label, ek_reg, ek_draw, ek_seq, ec_cond, ek_block, ec_loop, ec_exit, ec_ret, ec_scope, ek_nil, ek_op, opK_some, regK_some, seqK_normal, seqK_exit, seqK_ret, blockK_normal, blockK_exit, blockK_ret, evOp, vOp, hOpB, hOpU, hOp, hOpT, aAppendG_tab, aWanted, aYielded, opd, putT, closedV, aBin, intOp, sameK, mapO, joinR, hasAddr, boundOf, pushB, aAlloc, Value.cells, lookB, setB, Nat.beq_eq, tm_n_set, tm_get_set, tm_of_n, tm_of_get, tm_tr_set, tm_tr_of, cellV, putF, appR_eq, takeR_eq, dropR_eq, setR_eq, getR_eq, LD3, cellAt, tkc, LD3, LD37, FA39_0, LENI, ST37, lookB_setB, shOp, b64, finF, takeM, resV, h, c]

/-- The memory with a source in block 1. -/
def HS (cs : List Value) (x : Int) : AH := ⟨2, [(1, .cells false [.int .u64 x]), (0, .cells true cs)]⟩
theorem BD39 (c : Int) : aBuild (tabT Try.prog) 104 [(0, .int .u64 c)] = some (.agg #[.int .u64 c]) := by kernel_rfl
def I5 (u : Value) (n : Nat) (cs : List Value) (m : Nat) (A : AF) (H : AH) : Prop := ∃ (i : Nat) (x : Int), i + m = n ∧ A.tm.n = 41 ∧ A.marks = [] ∧ A.tm.get 4 = .int .i64 (i : Int) ∧ A.tm.get 0 = u ∧ A.tm.get 3 = .pointer (some ⟨1, 0, none⟩) ∧ H = HS cs x
def Q5 (cs : List Value) (x : AX) (A' : AF) (H : AH) : Prop := x = .exit 0 ∧ A'.tm.n = 41 ∧ A'.marks = [] ∧ A'.tm.get 3 = .pointer (some ⟨1, 0, none⟩) ∧ ∃ y, H = HS cs y

set_option maxRecDepth 10000 in
set_option maxHeartbeats 8000000 in
theorem newSource_ev (call : Value → List Value → AH → Option (Value × AH)) {L : Nat} {u : Value} {n : Nat} {cs : List Value} (hL : n < L) (hn : n ≤ 9223372036854775807) (hcs : okC cs n = true)
    (hlen : aLen (tabT Try.prog) 22 u = some (.int .i64 n)) (hix : ∀ k : Nat, k < n → aIndexAddr (tabT Try.prog) 22 u (.int .i64 (k : Int)) = some (.pointer (some ⟨0, k, none⟩))) :
    ∃ x, evFn (tabT Try.prog) call L kpT 37 Try.f37 [u] ⟨1, [(0, .cells true cs)]⟩ = some (.pointer (some ⟨1, 0, none⟩), HS cs x) := by
  obtain ⟨_, _, _, _, t3⟩ := T3e
  obtain ⟨_, _, _, _, t37⟩ := T37e
  simp only [evFn, Try.f37]
  simp [ec_skip, ec_label, ek_reg, ek_draw, ek_seq, ec_cond, ek_block, ec_loop, ec_exit, ec_ret, ec_scope, ek_nil, ek_op, opK_some, regK_some, seqK_normal, seqK_exit, seqK_ret, blockK_normal, blockK_exit, blockK_ret, evOp, vOp, hOpB, hOpU, hOp, hOpT, aAppendG_tab, aWanted, aYielded, opd, putT, closedV, aBin, intOp, sameK, mapO, joinR, hasAddr, boundOf, pushB, aAlloc, Value.cells, lookB, setB, Nat.beq_eq, tm_n_set, tm_get_set, tm_of_n, tm_of_get, tm_tr_set, tm_tr_of, cellV, putF, appR_eq, takeR_eq, dropR_eq, setR_eq, getR_eq, LD3, cellAt, tkc, LD3, LD37, FA39_0, LENI, ST37, t3, t37, lookB_setB, shOp, b64, partsO, BD39]
  generalize hr : evLoop _ _ _ _ = rr
  obtain ⟨x, A', H', rfl, rfl, hl, hmk, h3, y, rfl⟩ := loop_go (Q := Q5 cs) hr (I5 u n cs) n hL (by
      clear hr
      refine ⟨0, 2685821657736338717, by omega, by simp [tm_n_set, tm_of_n], rfl, ?_⟩
      simp [tm_get_set, tm_n_set, tm_of_n, tm_of_get, HS]) (by
      clear hr
      rintro m A H ⟨i, x, him, hl, hmk, h4, h0, h3, rfl⟩
      simp only [runC, HS]
      cases m with
      | zero =>
        have hi : ¬ i < n := by omega
        simp [ec_skip, ec_label, ek_reg, ek_draw, ek_seq, ec_cond, ek_block, ec_loop, ec_exit, ec_ret, ec_scope, ek_nil, ek_op, opK_some, regK_some, seqK_normal, seqK_exit, seqK_ret, blockK_normal, blockK_exit, blockK_ret, evOp, vOp, hOpB, hOpU, hOp, hOpT, aAppendG_tab, aWanted, aYielded, opd, putT, closedV, aBin, intOp, sameK, mapO, joinR, hasAddr, boundOf, pushB, aAlloc, Value.cells, lookB, setB, Nat.beq_eq, tm_n_set, tm_get_set, tm_of_n, tm_of_get, tm_tr_set, tm_tr_of, cellV, putF, appR_eq, takeR_eq, dropR_eq, setR_eq, getR_eq, LD3, cellAt, tkc, LD3, LD37, FA39_0, LENI, ST37, t3, t37, lookB_setB, shOp, b64, hl, hmk, h4, h0, h3, hlen, hi]
        exact .inr ⟨by simp, rfl, by simp [tm_n_set, hl], rfl, by simp [tm_get_set, tm_n_set, hl, h3], x, rfl⟩
      | succ m =>
        have hi : i < n := by omega
        have hw : wrapI .i64 ((i : Int) + 1) = ((i + 1 : Nat) : Int) := by rw [wrapI_small (by omega) (by omega)]; rfl
        have p := hix i hi
        have c0 := okC_at hcs (j := i) (by omega)
        simp [ec_skip, ec_label, ek_reg, ek_draw, ek_seq, ec_cond, ek_block, ec_loop, ec_exit, ec_ret, ec_scope, ek_nil, ek_op, opK_some, regK_some, seqK_normal, seqK_exit, seqK_ret, blockK_normal, blockK_exit, blockK_ret, evOp, vOp, hOpB, hOpU, hOp, hOpT, aAppendG_tab, aWanted, aYielded, opd, putT, closedV, aBin, intOp, sameK, mapO, joinR, hasAddr, boundOf, pushB, aAlloc, Value.cells, lookB, setB, Nat.beq_eq, tm_n_set, tm_get_set, tm_of_n, tm_of_get, tm_tr_set, tm_tr_of, cellV, putF, appR_eq, takeR_eq, dropR_eq, setR_eq, getR_eq, LD3, cellAt, tkc, LD3, LD37, FA39_0, LENI, ST37, t3, t37, lookB_setB, shOp, b64, hl, hmk, h4, h0, h3, hlen, hi]
        generalize hX : evDrawX _ _ _ _ _ = X
        obtain ⟨tma, rfl, tman, tma4, tma0, tma3⟩ := draw_any (H' := HS cs (wrapI .u64 (bits .xor .u64 x (wrapI .u64 (gi cs i)) * 11400714819323198485))) (Pt := fun tm => tm.get 4 = .int .i64 (i : Int) ∧ tm.get 0 = u ∧ tm.get 3 = .pointer (some ⟨1, 0, none⟩)) hX (by kernel_rfl) (by simp [decrK, Nat.blt_eq]) (by
          clear hX
          generalize hM : befs _ = M
          have o1 : ordB M 14 4 = true := by rw [← hM]; kernel_rfl
          have o2 : ordB M 14 8 = true := by rw [← hM]; kernel_rfl
          clear hM
          simp [mapO, drRun, drOp, dr3, looks, guardT, tmpsOf, Op.operands, Call.operands, wantedR, gOf, finT, natMem, isNil, writesF, evOp, vOp, hOpB, hOpU, hOp, hOpT, opd, closedV, aBin, intOp, sameK, opdO, boundOf, undef, lookB, Nat.beq_eq, tm_n_set, tm_get_set, tm_of_n, tm_of_get, tm_tr_set, tm_tr_of, b02, b12, b32, roB, roK, newOnes, LD3, LD37, FA39_0, LENI, ST37, t3, t37, shOp, b64, wheap, news, Value.cells, cellV, putF, setB, appR_eq, takeR_eq, dropR_eq, setR_eq, hl, h4, h0, h3, p, c0, cellAt]
          refine ⟨_, _, ⟨rfl, rfl⟩, by simp [dynOK, b02, b12, b32, b23, b03, o1, o2, Nat.blt_eq, Nat.beq_eq], by simp [wheap, news, b02, b12, b32, HS], by simp [finT, tm_get_set, tm_n_set, hl, h4, h0, h3]⟩)
        clear hX
        simp [tm_n_set, hl] at tman
        simp only [HS]
        simp [ec_skip, ec_label, ek_reg, ek_draw, ek_seq, ec_cond, ek_block, ec_loop, ec_exit, ec_ret, ec_scope, ek_nil, ek_op, opK_some, regK_some, seqK_normal, seqK_exit, seqK_ret, blockK_normal, blockK_exit, blockK_ret, evOp, vOp, hOpB, hOpU, hOp, hOpT, aAppendG_tab, aWanted, aYielded, opd, putT, closedV, aBin, intOp, sameK, mapO, joinR, hasAddr, boundOf, pushB, aAlloc, Value.cells, lookB, setB, Nat.beq_eq, tm_n_set, tm_get_set, tm_of_n, tm_of_get, tm_tr_set, tm_tr_of, cellV, putF, appR_eq, takeR_eq, dropR_eq, setR_eq, getR_eq, LD3, cellAt, tkc, LD3, LD37, FA39_0, LENI, ST37, t3, t37, lookB_setB, shOp, b64, hmk, tman, tma4, tma0, tma3]
        generalize hX : evDrawX _ _ _ _ _ = X
        obtain ⟨tmb, rfl, tmbn, tmb4, tmb0, tmb3⟩ := draw_any (H' := HS cs (bits .xor .u64 (wrapI .u64 (bits .xor .u64 x (wrapI .u64 (gi cs i)) * 11400714819323198485)) ((wrapI .u64 (bits .xor .u64 x (wrapI .u64 (gi cs i)) * 11400714819323198485)).fdiv 536870912))) (Pt := fun tm => tm.get 4 = .int .i64 (i : Int) ∧ tm.get 0 = u ∧ tm.get 3 = .pointer (some ⟨1, 0, none⟩)) hX (by kernel_rfl) (by simp [decrK, Nat.blt_eq]) (by
          clear hX
          generalize hM : befs _ = M
          have o1 : ordB M 13 4 = true := by rw [← hM]; kernel_rfl
          have o2 : ordB M 13 8 = true := by rw [← hM]; kernel_rfl
          clear hM
          simp [mapO, drRun, drOp, dr3, looks, guardT, tmpsOf, Op.operands, Call.operands, wantedR, gOf, finT, natMem, isNil, writesF, evOp, vOp, hOpB, hOpU, hOp, hOpT, opd, closedV, aBin, intOp, sameK, opdO, boundOf, undef, lookB, Nat.beq_eq, tm_n_set, tm_get_set, tm_of_n, tm_of_get, tm_tr_set, tm_tr_of, b02, b12, b32, roB, roK, newOnes, LD3, LD37, FA39_0, LENI, ST37, t3, t37, shOp, b64, wheap, news, Value.cells, cellV, putF, setB, appR_eq, takeR_eq, dropR_eq, setR_eq, tman, tma4, tma0, tma3, p, c0, cellAt]
          refine ⟨_, _, ⟨rfl, rfl⟩, by simp [dynOK, b02, b12, b32, b23, b03, o1, o2, Nat.blt_eq, Nat.beq_eq], by simp [wheap, news, b02, b12, b32, HS], by simp [finT, tm_get_set, tm_n_set, tman, tma4, tma0, tma3]⟩)
        clear hX
        simp [tm_n_set, tman] at tmbn
        simp only [HS]
        simp [ec_skip, ec_label, ek_reg, ek_draw, ek_seq, ec_cond, ek_block, ec_loop, ec_exit, ec_ret, ec_scope, ek_nil, ek_op, opK_some, regK_some, seqK_normal, seqK_exit, seqK_ret, blockK_normal, blockK_exit, blockK_ret, evOp, vOp, hOpB, hOpU, hOp, hOpT, aAppendG_tab, aWanted, aYielded, opd, putT, closedV, aBin, intOp, sameK, mapO, joinR, hasAddr, boundOf, pushB, aAlloc, Value.cells, lookB, setB, Nat.beq_eq, tm_n_set, tm_get_set, tm_of_n, tm_of_get, tm_tr_set, tm_tr_of, cellV, putF, appR_eq, takeR_eq, dropR_eq, setR_eq, getR_eq, LD3, cellAt, tkc, LD3, LD37, FA39_0, LENI, ST37, t3, t37, lookB_setB, shOp, b64, hmk, tmbn, tmb4, tmb0, tmb3]
        refine ⟨_, _, _, ⟨rfl, rfl, rfl⟩, .inl ⟨rfl, m, rfl, i + 1, _, by omega, by simp [tm_n_set, tmbn], rfl, ?_, ?_, ?_, rfl⟩⟩
        · simp [tm_get_set, tm_n_set, tmbn, tmb4, hw]
        · simp [tm_get_set, tm_n_set, tmbn, tmb0]
        · simp [tm_get_set, tm_n_set, tmbn, tmb3])
  simp [ec_skip, ec_label, ek_reg, ek_draw, ek_seq, ec_cond, ek_block, ec_loop, ec_exit, ec_ret, ec_scope, ek_nil, ek_op, opK_some, regK_some, seqK_normal, seqK_exit, seqK_ret, blockK_normal, blockK_exit, blockK_ret, evOp, vOp, hOpB, hOpU, hOp, hOpT, aAppendG_tab, aWanted, aYielded, opd, putT, closedV, aBin, intOp, sameK, mapO, joinR, hasAddr, boundOf, pushB, aAlloc, Value.cells, lookB, setB, Nat.beq_eq, tm_n_set, tm_get_set, tm_of_n, tm_of_get, tm_tr_set, tm_tr_of, cellV, putF, appR_eq, takeR_eq, dropR_eq, setR_eq, getR_eq, LD3, cellAt, tkc, LD3, LD37, FA39_0, LENI, ST37, t3, t37, lookB_setB, shOp, b64, finF, takeM, resV, hl, hmk, h3, cleanedG, gc5, HS, hasAddr]



end

section
set_option linter.unusedSimpArgs false
set_option linter.unusedVariables false

theorem Ntotal : ((tabT Try.prog) 22).map (fun z => (z.ex.nat 82, z.ex.mnz 82)) = some (none, none) := by kernel_rfl
theorem kpt : kpT 82 = false := by kernel_rfl
theorem kpp : kpT 43 = false := by kernel_rfl
theorem Gtot (call : Value → List Value → AH → Option (Value × AH)) {tm : Tm} {rs : List DR} {ts : List Nat} {k : Nat} {H : AH} {d : Option Tmp} {t : TypeId} {p : String} {a : Array Edge} {gd : Option (Nat × Bool)} (h : natMem ts k = true) : evOp (tabT Try.prog) call ⟨d, .call ⟨.value (.func 82), #[.tmp k], #[22]⟩, t, p, a, gd⟩ (gOf tm rs ts) H = call (.func (.func 82) #[] #[]) [(finT tm rs).get k] H :=
  evOp_evO.trans (eo_call1 rfl (by simp only [gOf, h, if_true]) Ntotal)
theorem Wtot : wrT 82 = false := by kernel_rfl

/-- A list of integers in cells, or nil. -/
def Lst (bs : List (Nat × ABlk)) (u : Value) (n : Nat) (g : Nat → Int) : Prop := (u = .slice none 0 0 ∧ n = 0) ∨ ∃ a ro cs, u = .slice (some ⟨a, 0, none⟩) n 1 ∧ lookB bs a = some (.cells ro cs) ∧ okC cs n = true ∧ g = gi cs
theorem Lst.len {bs : List (Nat × ABlk)} {u : Value} {n : Nat} {g : Nat → Int} (h : Lst bs u n g) : ∃ a z, u = .slice a n z := by
  rcases h with ⟨rfl, rfl⟩ | ⟨a, _, _, rfl, _⟩
  · exact ⟨_, _, rfl⟩
  · exact ⟨_, _, rfl⟩
theorem Lst.ro {bs : List (Nat × ABlk)} {u : Value} {n : Nat} {g : Nat → Int} (h : Lst bs u n g) (hd : decrK bs = true) : Lst (roB bs) u n g := by
  rcases h with h | ⟨a, ro, cs, h1, h2, h3, h4⟩
  · exact .inl h
  · exact .inr ⟨a, true, cs, h1, lookB_roB_cells _ _ _ _ h2 hd, h3, h4⟩
theorem Lst.push {bs : List (Nat × ABlk)} {u : Value} {n : Nat} {g : Nat → Int} (h : Lst bs u n g) {N : Nat} (hb : ∀ p ∈ bs, p.1 < N) (k : ABlk) : Lst ((N, k) :: bs) u n g := by
  rcases h with h | ⟨a, ro, cs, h1, h2, h3, h4⟩
  · exact .inl h
  · have : a < N := hb _ (lookB_mem h2)
    exact .inr ⟨a, ro, cs, h1, by simp only [lookB, beq_ne (show ¬ a = N by omega), Bool.false_eq_true, if_false]; exact h2, h3, h4⟩
theorem roB_ids : ∀ bs : List (Nat × ABlk), ((roB bs).map (·.1)).Sublist (bs.map (·.1))
  | [] => List.Sublist.slnil
  | (i, k) :: r => by
    simp only [roB]
    split
    · exact (roB_ids r).cons_cons _
    · exact (roB_ids r).cons _
theorem decrK_pw2 : ∀ bs : List (Nat × ABlk), decrK bs = true ↔ List.Pairwise (fun a b : Nat => b < a) (bs.map (·.1))
  | [] => by simp [decrK]
  | [p] => by simp [decrK]
  | (i, k) :: (j, q) :: r => by
    have ih := decrK_pw2 ((j, q) :: r)
    simp only [decrK, Bool.and_eq_true]
    rw [ih]
    simp only [List.map_cons, List.pairwise_cons]
    constructor
    · rintro ⟨h1, h2, h3⟩
      have h1' : j < i := by simpa [Nat.blt_eq] using h1
      refine ⟨fun x hx => ?_, h2, h3⟩
      rcases List.mem_cons.1 hx with rfl | hx
      · exact h1'
      · exact Nat.lt_trans (h2 x hx) h1'
    · rintro ⟨h1, h2, h3⟩
      exact ⟨by simpa [Nat.blt_eq] using h1 j List.mem_cons_self, h2, h3⟩
theorem MI.ro {H : AH} (h : MI H) : MI ⟨H.next, roB H.bs⟩ := by
  refine ⟨(decrK_pw2 _).2 (((decrK_pw2 _).1 h.1).sublist (roB_ids H.bs)), fun p hp => ?_⟩
  have hm : p.1 ∈ H.bs.map (·.1) := (roB_ids H.bs).subset (List.mem_map.2 ⟨p, hp, rfl⟩)
  obtain ⟨q, hq, e⟩ := List.mem_map.1 hm
  rw [← e]
  exact h.2 q hq
theorem below_all (n : Nat) : ∀ bs : List (Nat × ABlk), (∀ p ∈ bs, p.1 < n) → below n bs = bs
  | [], _ => rfl
  | (i, k) :: r, h => by
    have hi : Nat.blt i n = true := by simpa [Nat.blt_eq] using h (i, k) List.mem_cons_self
    simp only [below, hi, if_true, below_all n r fun p hp => h p (List.mem_cons_of_mem _ hp)]

noncomputable def IT (u : Value) (g : Nat → Int) (n : Nat) (R : Int) (H0 : AH) (m : Nat) (A : AF) (H : AH) : Prop := ∃ (i : Nat) (acc : Int), i + m = n ∧ sumG g m i acc = R ∧ A.tm.n = 18 ∧ A.marks = [] ∧ A.tm.get 4 = .int .i64 (i : Int) ∧ A.tm.get 3 = .int .i64 acc ∧ A.tm.get 0 = u ∧ H = H0
noncomputable def QT (R : Int) (H0 : AH) (y : AX) (A : AF) (H : AH) : Prop := y = .exit 0 ∧ A.tm.n = 18 ∧ A.marks = [] ∧ A.tm.get 3 = .int .i64 R ∧ H = H0
set_option maxRecDepth 10000 in
set_option maxHeartbeats 8000000 in
theorem total_ev {L : Nat} (call : Value → List Value → AH → Option (Value × AH)) (N : Nat) (bs : List (Nat × ABlk)) {u : Value} {n : Nat} {g : Nat → Int} (hn : n ≤ 200) (hM : MI ⟨N, bs⟩) (hu : Lst bs u n g) :
    evFn (tabT Try.prog) call (L + 300) kpT 82 Try.f82 [u] ⟨N, bs⟩ = some (.int .i64 (sumG g n 0 0), ⟨N, bs⟩) := by
  have kp := kpt
  have hbl := below_all N bs hM.2
  simp only [evFn, Try.f82]
  simp [ec_skip, ec_label, ek_reg, ek_draw, ek_seq, ec_cond, ek_block, ec_loop, ec_exit, ec_ret, ec_scope, ek_nil, ek_op, opK_some, regK_some, seqK_normal, seqK_exit, seqK_ret, blockK_normal, blockK_exit, blockK_ret, evOp, vOp, hOpB, hOpU, hOp, hOpT, aAppendG_tab, aWanted, aYielded, opd, putT, closedV, aBin, intOp, sameK, mapO, joinR, hasAddr, boundOf, pushB, aAlloc, Value.cells, lookB, setB, Nat.beq_eq, tm_n_set, tm_get_set, tm_of_n, tm_of_get, tm_tr_set, tm_tr_of, cellV, putF, appR_eq, takeR_eq, dropR_eq, setR_eq, getR_eq, ↓C75, ↓C76, ↓C77, ↓C79, ↓C17, ↓C18, ↓C22, ↓C71, FA24_0, FA24_1, FA24_2, FA24_3, FA24_4, FA24_5, FA24_6, FA24_7, FA24_8, LD3, LD4, LD22, LD27, LDr, LD24, LEN22, IA22, tkc, cellAt]
  generalize hr : evLoop _ _ _ _ = r
  obtain ⟨y, A', H', rfl, rfl, hl, hmk, g3, rfl⟩ := loop_go (Q := QT (sumG g n 0 0) ⟨N, bs⟩) hr (IT u g n (sumG g n 0 0) ⟨N, bs⟩) n (by omega) ⟨0, 0, by omega, rfl, rfl, rfl, rfl, rfl, rfl, rfl⟩ (by
    clear hr
    rintro m A H' ⟨i, acc, him, hsum, hl, hmk, g4, g3, g0, rfl⟩
    obtain ⟨a0, z0, hv⟩ := hu.len
    simp only [runC]
    cases m with
    | zero =>
      have hi : ¬ i < n := by omega
      subst hv
      simp only [sumG] at hsum
      simp [ec_skip, ec_label, ek_reg, ek_draw, ek_seq, ec_cond, ek_block, ec_loop, ec_exit, ec_ret, ec_scope, ek_nil, ek_op, opK_some, regK_some, seqK_normal, seqK_exit, seqK_ret, blockK_normal, blockK_exit, blockK_ret, evOp, vOp, hOpB, hOpU, hOp, hOpT, aAppendG_tab, aWanted, aYielded, opd, putT, closedV, aBin, intOp, sameK, mapO, joinR, hasAddr, boundOf, pushB, aAlloc, Value.cells, lookB, setB, Nat.beq_eq, tm_n_set, tm_get_set, tm_of_n, tm_of_get, tm_tr_set, tm_tr_of, cellV, putF, appR_eq, takeR_eq, dropR_eq, setR_eq, getR_eq, ↓C75, ↓C76, ↓C77, ↓C79, ↓C17, ↓C18, ↓C22, ↓C71, FA24_0, FA24_1, FA24_2, FA24_3, FA24_4, FA24_5, FA24_6, FA24_7, FA24_8, LD3, LD4, LD22, LD27, LDr, LD24, LEN22, IA22, tkc, cellAt, hl, hmk, g4, g3, g0, hi]
      exact .inr ⟨by simp, rfl, by simp [tm_n_set, hl], rfl, by simp [tm_get_set, tm_n_set, hl, g3, hsum], rfl⟩
    | succ m =>
      have hi : i < n := by omega
      have hw : wrapI .i64 ((i : Int) + 1) = ((i + 1 : Nat) : Int) := by rw [wrapI_small (by omega) (by omega)]; rfl
      rcases hu with ⟨_, h0⟩ | ⟨a, ro, cs, h1, h2, h3, rfl⟩
      · omega
      · subst h1
        have ix : aIndexAddr (tabT Try.prog) 22 (.slice (some ⟨a, 0, none⟩) n 1) (.int .i64 (i : Int)) = some (.pointer (some ⟨a, i, none⟩)) := by
          rw [ixa (e := 3) (z := 1) (by kernel_rfl) (by kernel_rfl) a 0 n 1 i hi]; simp
        have hc := okC_at h3 hi
        rw [sumG] at hsum
        simp [ec_skip, ec_label, ek_reg, ek_draw, ek_seq, ec_cond, ek_block, ec_loop, ec_exit, ec_ret, ec_scope, ek_nil, ek_op, opK_some, regK_some, seqK_normal, seqK_exit, seqK_ret, blockK_normal, blockK_exit, blockK_ret, evOp, vOp, hOpB, hOpU, hOp, hOpT, aAppendG_tab, aWanted, aYielded, opd, putT, closedV, aBin, intOp, sameK, mapO, joinR, hasAddr, boundOf, pushB, aAlloc, Value.cells, lookB, setB, Nat.beq_eq, tm_n_set, tm_get_set, tm_of_n, tm_of_get, tm_tr_set, tm_tr_of, cellV, putF, appR_eq, takeR_eq, dropR_eq, setR_eq, getR_eq, ↓C75, ↓C76, ↓C77, ↓C79, ↓C17, ↓C18, ↓C22, ↓C71, FA24_0, FA24_1, FA24_2, FA24_3, FA24_4, FA24_5, FA24_6, FA24_7, FA24_8, LD3, LD4, LD22, LD27, LDr, LD24, LEN22, IA22, tkc, cellAt, hl, hmk, g4, g3, g0, hi, ix, h2, hc]
        refine .inl ⟨rfl, m, rfl, i + 1, wrapI .i64 (acc + gi cs i), by omega, hsum, ?_⟩
        simp [tm_get_set, tm_n_set, hl, hmk, g0, hw])
  simp [ec_skip, ec_label, ek_reg, ek_draw, ek_seq, ec_cond, ek_block, ec_loop, ec_exit, ec_ret, ec_scope, ek_nil, ek_op, opK_some, regK_some, seqK_normal, seqK_exit, seqK_ret, blockK_normal, blockK_exit, blockK_ret, evOp, vOp, hOpB, hOpU, hOp, hOpT, aAppendG_tab, aWanted, aYielded, opd, putT, closedV, aBin, intOp, sameK, mapO, joinR, hasAddr, boundOf, pushB, aAlloc, Value.cells, lookB, setB, Nat.beq_eq, tm_n_set, tm_get_set, tm_of_n, tm_of_get, tm_tr_set, tm_tr_of, cellV, putF, appR_eq, takeR_eq, dropR_eq, setR_eq, getR_eq, ↓C75, ↓C76, ↓C77, ↓C79, ↓C17, ↓C18, ↓C22, ↓C71, FA24_0, FA24_1, FA24_2, FA24_3, FA24_4, FA24_5, FA24_6, FA24_7, FA24_8, LD3, LD4, LD22, LD27, LDr, LD24, LEN22, IA22, tkc, cellAt, hl, hmk, g3, finF, takeM, resV, cleanedG, hasAddr, kp, hbl]

/-- A set as a value, its lists wherever they lie. -/
def setCV (p : Int) (u1 : Value) (w d f c m de : Int) (u8 : Value) : Value := .agg ⟨[.int .i64 p, u1, .int .i64 w, .int .i64 d, .int .i64 f, .int .i64 c, .int .i64 m, .int .i64 de, u8]⟩
set_option maxRecDepth 10000 in
set_option maxHeartbeats 8000000 in
theorem plainC_ev {L : Nat} (call : Value → List Value → AH → Option (Value × AH)) (N : Nat) (bs : List (Nat × ABlk)) {p w d f c m de : Int} {u1 u8 : Value} {n : Nat} {g : Nat → Int} (hM : MI ⟨N, bs⟩) (hu : Lst bs u1 n g)
    (htot : ∀ (N : Nat) (bs : List (Nat × ABlk)), MI ⟨N, bs⟩ → Lst bs u1 n g → call (.func (.func 82) #[] #[]) [u1] ⟨N, bs⟩ = some (.int .i64 (sumG g n 0 0), ⟨N, bs⟩)) :
    evFn (tabT Try.prog) call (L + 300) kpT 43 Try.f43 [setCV p u1 w d f c m de u8] ⟨N, bs⟩ = some (.int .i64 (wrapI .i64 (wrapI .i64 (sumG g n 0 0 + w) + d)), ⟨N + 1, bs⟩) := by
  have kp := kpp
  have hbl := below_all N bs hM.2
  have nn : ¬ N < N := Nat.lt_irrefl N
  have nle : ¬ N + 1 ≤ N := by omega
  have hM1 := hM.push (.cells false [.int .i64 p, u1, .int .i64 w, .int .i64 d, .int .i64 f, .int .i64 c, .int .i64 m, .int .i64 de, u8])
  have hr1 := hM1.ro
  have nw := newOnes_ro _ (N + 1) hM1.2
  have ht := htot (N + 1) (roB ((N, .cells false [.int .i64 p, u1, .int .i64 w, .int .i64 d, .int .i64 f, .int .i64 c, .int .i64 m, .int .i64 de, u8]) :: bs)) hr1 ((hu.push hM.2 _).ro hM1.1)
  simp only [roB, roK] at ht nw
  simp only [evFn, Try.f43, setCV]
  simp [ec_skip, ec_label, ek_reg, ek_draw, ek_seq, ec_cond, ek_block, ec_loop, ec_exit, ec_ret, ec_scope, ek_nil, ek_op, opK_some, regK_some, seqK_normal, seqK_exit, seqK_ret, blockK_normal, blockK_exit, blockK_ret, evOp, vOp, hOpB, hOpU, hOp, hOpT, aAppendG_tab, aWanted, aYielded, opd, putT, closedV, aBin, intOp, sameK, mapO, joinR, hasAddr, boundOf, pushB, aAlloc, Value.cells, lookB, setB, Nat.beq_eq, tm_n_set, tm_get_set, tm_of_n, tm_of_get, tm_tr_set, tm_tr_of, cellV, putF, appR_eq, takeR_eq, dropR_eq, setR_eq, getR_eq, ↓C75, ↓C76, ↓C77, ↓C79, ↓C17, ↓C18, ↓C22, ↓C71, FA24_0, FA24_1, FA24_2, FA24_3, FA24_4, FA24_5, FA24_6, FA24_7, FA24_8, LD3, LD4, LD22, LD27, LDr, LD24, LEN22, IA22, tkc, cellAt]
  generalize hX : evDrawX _ _ _ _ _ = X
  obtain ⟨tm, rfl, hn', t2⟩ := draw_ro (Pt := fun tm => tm.get 2 = .int .i64 (wrapI .i64 (wrapI .i64 (sumG g n 0 0 + w) + d))) hX (by kernel_rfl) hM1.1 (by
    clear hX
    generalize befs _ = M
    simp [mapO, drRun, drOp, dr3, looks, guardT, tmpsOf, Op.operands, Call.operands, wantedR, gOf, finT, natMem, isNil, writesF, evOp, vOp, hOpB, hOpU, hOp, hOpT, aAppendG_tab, opd, closedV, aBin, intOp, sameK, opdO, boundOf, undef, lookB, Nat.beq_eq, tm_n_set, tm_get_set, tm_of_n, tm_of_get, tm_tr_set, tm_tr_of, b02, b12, b32, ↓G75, W75, ↓G76, W76, ↓G77, W77, ↓G79, W79, ↓G17, W17, ↓G18, W18, ↓G22, W22, ↓G71, W71, tv, all1, roB, roK, news, newOnes, decr, tkc, cellAt, LD3, LD4, LD22, LD27, LDr, LD24, LEN22, IA22, FA24_0, FA24_1, FA24_2, FA24_3, FA24_4, FA24_5, FA24_6, FA24_7, FA24_8, hasR, hasR_ro, ↓Gtot, Wtot, ht, nle, Nat.ble_eq, tm_of_n, tm_of_get]
    refine ⟨by simp [dynOK, b02, b12, b32, Nat.blt_eq, tm_n_set, tm_of_n], by simp [wheap, news, b02, b12, b32]⟩)
  simp [tm_n_set] at hn'
  simp [ec_skip, ec_label, ek_reg, ek_draw, ek_seq, ec_cond, ek_block, ec_loop, ec_exit, ec_ret, ec_scope, ek_nil, ek_op, opK_some, regK_some, seqK_normal, seqK_exit, seqK_ret, blockK_normal, blockK_exit, blockK_ret, evOp, vOp, hOpB, hOpU, hOp, hOpT, aAppendG_tab, aWanted, aYielded, opd, putT, closedV, aBin, intOp, sameK, mapO, joinR, hasAddr, boundOf, pushB, aAlloc, Value.cells, lookB, setB, Nat.beq_eq, tm_n_set, tm_get_set, tm_of_n, tm_of_get, tm_tr_set, tm_tr_of, cellV, putF, appR_eq, takeR_eq, dropR_eq, setR_eq, getR_eq, ↓C75, ↓C76, ↓C77, ↓C79, ↓C17, ↓C18, ↓C22, ↓C71, FA24_0, FA24_1, FA24_2, FA24_3, FA24_4, FA24_5, FA24_6, FA24_7, FA24_8, LD3, LD4, LD22, LD27, LDr, LD24, LEN22, IA22, tkc, cellAt, hn', t2, finF, takeM, resV, cleanedG, hasAddr, kp, below, nn, hbl, Nat.blt_eq]


end

section
set_option linter.unusedSimpArgs false
set_option linter.unusedVariables false

theorem decrK_pw : ∀ bs : List (Nat × ABlk), decrK bs = true ↔ List.Pairwise (fun p q => q.1 < p.1) bs
  | [] => by simp [decrK]
  | [p] => by simp [decrK]
  | (i, k) :: (j, q) :: r => by
    have ih := decrK_pw ((j, q) :: r)
    simp only [decrK, Bool.and_eq_true]
    rw [ih, List.pairwise_cons (a := (i, k))]
    constructor
    · rintro ⟨h1, h2⟩
      have h1' : j < i := by simpa [Nat.blt_eq] using h1
      refine ⟨fun x hx => ?_, h2⟩
      rcases List.mem_cons.1 hx with rfl | hx
      · exact h1'
      · exact Nat.lt_trans ((List.pairwise_cons.1 h2).1 x hx) h1'
    · rintro ⟨h1, h2⟩
      exact ⟨by simpa [Nat.blt_eq] using h1 (j, q) List.mem_cons_self, h2⟩
theorem MI.sub {H : AH} (h : MI H) {bs : List (Nat × ABlk)} {nx : Nat} (hs : bs.Sublist H.bs) (hn : H.next ≤ nx) : MI ⟨nx, bs⟩ :=
  ⟨(decrK_pw _).2 (((decrK_pw _).1 h.1).sublist hs), fun p hp => Nat.lt_of_lt_of_le (h.2 p (hs.subset hp)) hn⟩
theorem dropB_sub : ∀ (bs : List (Nat × ABlk)) (i : Nat), (dropB bs i).Sublist bs
  | [], _ => List.Sublist.slnil
  | (j, k) :: r, i => by
    simp only [dropB]
    split
    · exact (dropB_sub r i).cons _
    · exact (dropB_sub r i).cons_cons _
theorem apr {T : TypeId → Option TI} {t e : TypeId} {z b : Nat} (h1 : (T t).map (·.desc) = some (.slice e)) (h2 : (T e).map (fun y => (y.size, y.bytes)) = some (z, b)) (H : AH) (s x : Value) :
    aAppend T H t s x = match sliceLen x, sliceLen s with
    | some 0, some _ => some (s, H)
    | some (m + 1), some _ => (match srcCells H.bs x z, dstCells H.bs s z with
      | some news, some (olds, n, bs') =>
        if Nat.ble ((n + (m + 1)) * b) 1000000000000 && Nat.ble (n + (m + 1)) 1000000000000 && news.all cellV then
          some (.slice (some ⟨H.next, 0, none⟩) (n + (m + 1)) z, { next := H.next + 1, bs := (H.next, .cells false (olds ++ news)) :: bs' })
        else none
      | _, _ => none)
    | _, _ => none := by
  obtain ⟨_, _, _, _, ht⟩ := tdesc h1
  cases he : T e with
  | none => rw [he] at h2; cases h2
  | some y =>
    rw [he] at h2
    simp only [Option.map_some, Option.some.injEq, Prod.mk.injEq] at h2
    obtain ⟨rfl, rfl⟩ := h2
    simp only [aAppend, ht, he]
    cases sliceLen x with
    | none => rfl
    | some m => cases m <;> cases sliceLen s <;> rfl

theorem AP22 (H : AH) (s x : Value) : aAppend (tabT Try.prog) H 22 s x = match sliceLen x, sliceLen s with
    | some 0, some _ => some (s, H)
    | some (m + 1), some _ => (match srcCells H.bs x 1, dstCells H.bs s 1 with
      | some news, some (olds, n, bs') =>
        if Nat.ble ((n + (m + 1)) * 8) 1000000000000 && Nat.ble (n + (m + 1)) 1000000000000 && news.all cellV then
          some (.slice (some ⟨H.next, 0, none⟩) (n + (m + 1)) 1, { next := H.next + 1, bs := (H.next, .cells false (olds ++ news)) :: bs' })
        else none
      | _, _ => none)
    | _, _ => none := apr (e := 3) (by kernel_rfl) (by kernel_rfl) H s x
theorem APT22 (H : AH) (u v : Value) : aAppendT (tabT Try.prog) H 22 22 u v = none := by kernel_rfl
theorem BS22 (H : AH) (a : Int) : aBuildSlice (tabT Try.prog) H 22 1 [(0, .int .i64 a)] = some (.slice (some ⟨H.next, 0, none⟩) 1 1, pushB H (.cells false [.int .i64 a])) := by kernel_rfl
theorem setB_setB (i : Nat) (k k' : ABlk) : ∀ bs : List (Nat × ABlk), setB (setB bs i k) i k' = setB bs i k'
  | [] => rfl
  | (j, q) :: r => by
    simp only [setB]
    split
    · rename_i h; simp only [setB, h, if_true]
    · rename_i h; simp only [setB, h, Bool.false_eq_true, if_false, setB_setB i k k' r]
/-- A list in a block of its own, behind the set. -/
def FL (lo : Nat) (H : AH) (u : Value) (n : Nat) (g : Nat → Int) : Prop := (u = .slice none 0 0 ∧ n = 0) ∨ ∃ a cs, u = .slice (some ⟨a, 0, none⟩) n 1 ∧ lo < a ∧ a < H.next ∧ lookB H.bs a = some (.cells false cs) ∧ okC cs n = true ∧ g = gi cs ∧ 0 < n
/-- The memory while a small set is made. -/
structure KL (N p : Nat) (bs : List (Nat × ABlk)) (H : AH) (x : Int) (s : SV) (u1 u8 : Value) : Prop where
  mi : MI H
  nx : N + 1 < H.next
  pn : p < N
  src : lookB H.bs p = some (sB x)
  set : lookB H.bs (N + 1) = some (.cells false [.int .i64 s.p, u1, .int .i64 s.w, .int .i64 s.d, .int .i64 s.f, .int .i64 s.c, .int .i64 s.m, .int .i64 s.de, u8])
  res : lookB H.bs N = some (.cells false [.int .i64 0, .slice none 0 0, .int .i64 0, .int .i64 0, .int .i64 0, .int .i64 0, .int .i64 0, .int .i64 0, .slice none 0 0])
  old : ∀ j, j < N → j ≠ p → lookB H.bs j = lookB bs j
  l1 : FL (N + 1) H u1 s.n s.g
  l8 : FL (N + 1) H u8 s.k s.h
  dis : ∀ a b n k, u1 = .slice (some ⟨a, 0, none⟩) n 1 → u8 = .slice (some ⟨b, 0, none⟩) k 1 → a ≠ b
theorem FL.mono {lo : Nat} {H H' : AH} {u : Value} {n : Nat} {g : Nat → Int} (h : FL lo H u n g) (hn : H.next ≤ H'.next) (hl : ∀ a, u = .slice (some ⟨a, 0, none⟩) n 1 → lo < a → a < H.next → lookB H'.bs a = lookB H.bs a) : FL lo H' u n g := by
  rcases h with h | ⟨a, cs, h1, h2, h3, h4, h5⟩
  · exact .inl h
  · exact .inr ⟨a, cs, h1, h2, by omega, (hl a h1 h2 h3).trans h4, h5⟩
theorem KL.step {N p : Nat} {bs : List (Nat × ABlk)} {H : AH} {x y : Int} {s : SV} {u1 u8 : Value} (h : KL N p bs H x s u1 u8) : KL N p bs ⟨H.next, setB H.bs p (sB y)⟩ y s u1 u8 := by
  have hp := h.pn
  have e : ∀ j, j ≠ p → lookB (setB H.bs p (sB y)) j = lookB H.bs j := fun j hj => by rw [lookB_setB, if_neg hj]
  exact ⟨h.mi.set _ _, h.nx, h.pn, by rw [lookB_setB, if_pos rfl, h.src]; rfl, (e _ (by omega)).trans h.set, (e _ (by omega)).trans h.res, fun j h1 h2 => (e j h2).trans (h.old j h1 h2), h.l1.mono (Nat.le_refl _) fun a _ h2 _ => e a (by omega), h.l8.mono (Nat.le_refl _) fun a _ h2 _ => e a (by omega), h.dis⟩
theorem app_fl {lo n : Nat} {H : AH} {u : Value} {g : Nat → Int} (hM : MI H) (h : FL lo H u n g) (hn : n ≤ 200) : ∃ bs2, bs2.Sublist H.bs ∧ (∀ j, (∀ a, u = .slice (some ⟨a, 0, none⟩) n 1 → j ≠ a) → lookB bs2 j = lookB H.bs j) ∧ ∀ k : Int, ∃ cs, okC cs (n + 1) = true ∧ (∀ i, i < n → gi cs i = g i) ∧ gi cs n = k ∧
    aAppend (tabT Try.prog) ⟨H.next + 1, (H.next, .cells false [.int .i64 k]) :: H.bs⟩ 22 u (.slice (some ⟨H.next, 0, none⟩) 1 1) = some (.slice (some ⟨H.next + 1, 0, none⟩) (n + 1) 1, ⟨H.next + 2, (H.next + 1, .cells false cs) :: (H.next, .cells false [.int .i64 k]) :: bs2⟩) := by
  have tn : ∀ k : Int, takeCells [Value.int .i64 k] 0 1 = some [.int .i64 k] := fun _ => rfl
  rcases h with ⟨rfl, rfl⟩ | ⟨b, cs, rfl, hNb, hb, hl, hok, rfl, h0⟩
  · refine ⟨H.bs, List.Sublist.refl _, fun _ _ => rfl, fun k => ⟨[.int .i64 k], rfl, fun i hi => by omega, rfl, ?_⟩⟩
    rw [AP22]
    simp [sliceLen, srcCells, dstCells, lookB, tn, cellV]
  · refine ⟨dropB H.bs b, dropB_sub _ _, fun j hj => ?_, fun k => ⟨cs ++ [.int .i64 k], ?_, ?_, ?_, ?_⟩⟩
    · rw [lookB_dropB, if_neg (hj b rfl)]
    · have := okC_len hok
      simp only [okC, Bool.and_eq_true] at hok ⊢
      refine ⟨by simp [this], by simp [List.all_append, hok.2, isI]⟩
    · intro i hi
      have := okC_len hok
      unfold gi
      rw [List.getElem?_append_left (by omega)]
    · have := okC_len hok
      unfold gi
      rw [List.getElem?_append_right (by omega)]
      simp [this]
    · have hne : ¬ b = H.next := by omega
      have hne' : ¬ H.next = b := by omega
      have hlen := okC_len hok
      have ht : takeCells cs 0 n = some cs := by
        unfold takeCells
        rw [takeK_eq, dropR_eq, if_pos (by simp; omega)]
        simp only [List.drop_zero]
        rw [List.take_of_length_le (by omega)]
      have c1 : (n + 1) * 8 ≤ 1000000000000 := by omega
      have c2 : n ≤ 999999999999 := by omega
      rw [AP22]
      simp [sliceLen, srcCells, dstCells, lookB, cellV, hne, hne', hl, ht, tn, c1, c2, dropB, Nat.beq_eq]
/-- The list of suits grows. -/
theorem KL.app1 {N p : Nat} {bs : List (Nat × ABlk)} {H : AH} {x : Int} {s : SV} {u1 u8 : Value} (h : KL N p bs H x s u1 u8) (hn : s.n ≤ 200) : ∃ bs2, bs2.Sublist H.bs ∧ lookB bs2 (N + 1) = lookB H.bs (N + 1) ∧ lookB bs2 p = lookB H.bs p ∧ ∀ k : Int, ∃ cs, (∀ i, i < s.n → gi cs i = s.g i) ∧ gi cs s.n = k ∧
    aAppend (tabT Try.prog) ⟨H.next + 1, (H.next, .cells false [.int .i64 k]) :: H.bs⟩ 22 u1 (.slice (some ⟨H.next, 0, none⟩) 1 1) = some (.slice (some ⟨H.next + 1, 0, none⟩) (s.n + 1) 1, ⟨H.next + 2, (H.next + 1, .cells false cs) :: (H.next, .cells false [.int .i64 k]) :: bs2⟩) ∧
    KL N p bs ⟨H.next + 2, (H.next + 1, .cells false cs) :: (H.next, .cells false [.int .i64 k]) :: setB bs2 (N + 1) (.cells false [.int .i64 s.p, .slice (some ⟨H.next + 1, 0, none⟩) (s.n + 1) 1, .int .i64 s.w, .int .i64 s.d, .int .i64 s.f, .int .i64 s.c, .int .i64 s.m, .int .i64 s.de, u8])⟩ x { s with n := s.n + 1, g := gi cs } (.slice (some ⟨H.next + 1, 0, none⟩) (s.n + 1) 1) u8 := by
  have hp := h.pn
  have hx := h.nx
  obtain ⟨bs2, hs, hl, hap⟩ := app_fl h.mi h.l1 hn
  have out : ∀ j, j ≤ N + 1 → lookB bs2 j = lookB H.bs j := fun j hj => hl j fun a ha => by
    rcases h.l1 with ⟨e, _⟩ | ⟨b, cs, e, h2, _⟩
    · rw [e] at ha; cases ha
    · rw [e] at ha; cases ha; omega
  have M2 : MI ⟨H.next, bs2⟩ := h.mi.sub hs (Nat.le_refl _)
  refine ⟨bs2, hs, out _ (Nat.le_refl _), out _ (by omega), fun k => ?_⟩
  obtain ⟨cs, hok, hg, hk, e⟩ := hap k
  refine ⟨cs, hg, hk, e, ?_⟩
  have lk : ∀ j v, j < H.next → lookB ((H.next + 1, ABlk.cells false cs) :: (H.next, .cells false [.int .i64 k]) :: setB bs2 (N + 1) v) j = lookB (setB bs2 (N + 1) v) j := fun j v hj => by
    simp only [lookB, beq_ne (show ¬ j = H.next + 1 by omega), beq_ne (show ¬ j = H.next by omega), Bool.false_eq_true, if_false]
  have l2 : ∀ j v, j ≠ N + 1 → lookB (setB bs2 (N + 1) v) j = lookB bs2 j := fun j v hj => by rw [lookB_setB, if_neg hj]
  exact {
    mi := ((M2.set _ _).push _).push _
    nx := by show N + 1 < H.next + 2; omega
    pn := hp
    src := ((lk p _ (by omega)).trans (l2 p _ (by omega))).trans ((out p (by omega)).trans h.src)
    set := by
      show lookB ((H.next + 1, ABlk.cells false cs) :: (H.next, .cells false [.int .i64 k]) :: setB bs2 (N + 1) _) (N + 1) = _
      rw [lk (N + 1) _ (by omega), lookB_setB, if_pos rfl, out (N + 1) (Nat.le_refl _), h.set]; rfl
    res := ((lk N _ (by omega)).trans (l2 N _ (by omega))).trans ((out N (by omega)).trans h.res)
    old := fun j h1 h2 => ((lk j _ (by omega)).trans (l2 j _ (by omega))).trans ((out j (by omega)).trans (h.old j h1 h2))
    l1 := .inr ⟨H.next + 1, cs, rfl, by omega, by show H.next + 1 < H.next + 2; omega, by simp [lookB], hok, rfl, by show 0 < s.n + 1; omega⟩
    l8 := h.l8.mono (by show H.next ≤ H.next + 2; omega) fun a ha h2 h3 => (lk a _ h3).trans ((l2 a _ (by omega)).trans (hl a fun b hb => (h.dis b a _ _ hb ha).symm))
    dis := fun a b n k e1 e2 => by
      cases e1
      rcases h.l8 with ⟨e, _⟩ | ⟨b', cs', e, _, h3, _⟩
      · rw [e] at e2; cases e2
      · rw [e] at e2; cases e2; omega }
/-- The list of reds grows. -/
theorem KL.app8 {N p : Nat} {bs : List (Nat × ABlk)} {H : AH} {x : Int} {s : SV} {u1 u8 : Value} (h : KL N p bs H x s u1 u8) (hn : s.k ≤ 200) : ∃ bs2, bs2.Sublist H.bs ∧ lookB bs2 (N + 1) = lookB H.bs (N + 1) ∧ lookB bs2 p = lookB H.bs p ∧ ∀ k : Int, ∃ cs, (∀ i, i < s.k → gi cs i = s.h i) ∧ gi cs s.k = k ∧
    aAppend (tabT Try.prog) ⟨H.next + 1, (H.next, .cells false [.int .i64 k]) :: H.bs⟩ 22 u8 (.slice (some ⟨H.next, 0, none⟩) 1 1) = some (.slice (some ⟨H.next + 1, 0, none⟩) (s.k + 1) 1, ⟨H.next + 2, (H.next + 1, .cells false cs) :: (H.next, .cells false [.int .i64 k]) :: bs2⟩) ∧
    KL N p bs ⟨H.next + 2, (H.next + 1, .cells false cs) :: (H.next, .cells false [.int .i64 k]) :: setB bs2 (N + 1) (.cells false [.int .i64 s.p, u1, .int .i64 s.w, .int .i64 s.d, .int .i64 s.f, .int .i64 s.c, .int .i64 s.m, .int .i64 s.de, .slice (some ⟨H.next + 1, 0, none⟩) (s.k + 1) 1])⟩ x { s with k := s.k + 1, h := gi cs } u1 (.slice (some ⟨H.next + 1, 0, none⟩) (s.k + 1) 1) := by
  have hp := h.pn
  have hx := h.nx
  obtain ⟨bs2, hs, hl, hap⟩ := app_fl h.mi h.l8 hn
  have out : ∀ j, j ≤ N + 1 → lookB bs2 j = lookB H.bs j := fun j hj => hl j fun a ha => by
    rcases h.l8 with ⟨e, _⟩ | ⟨b, cs, e, h2, _⟩
    · rw [e] at ha; cases ha
    · rw [e] at ha; cases ha; omega
  have M2 : MI ⟨H.next, bs2⟩ := h.mi.sub hs (Nat.le_refl _)
  refine ⟨bs2, hs, out _ (Nat.le_refl _), out _ (by omega), fun k => ?_⟩
  obtain ⟨cs, hok, hg, hk, e⟩ := hap k
  refine ⟨cs, hg, hk, e, ?_⟩
  have lk : ∀ j v, j < H.next → lookB ((H.next + 1, ABlk.cells false cs) :: (H.next, .cells false [.int .i64 k]) :: setB bs2 (N + 1) v) j = lookB (setB bs2 (N + 1) v) j := fun j v hj => by
    simp only [lookB, beq_ne (show ¬ j = H.next + 1 by omega), beq_ne (show ¬ j = H.next by omega), Bool.false_eq_true, if_false]
  have l2 : ∀ j v, j ≠ N + 1 → lookB (setB bs2 (N + 1) v) j = lookB bs2 j := fun j v hj => by rw [lookB_setB, if_neg hj]
  exact {
    mi := ((M2.set _ _).push _).push _
    nx := by show N + 1 < H.next + 2; omega
    pn := hp
    src := ((lk p _ (by omega)).trans (l2 p _ (by omega))).trans ((out p (by omega)).trans h.src)
    set := by
      show lookB ((H.next + 1, ABlk.cells false cs) :: (H.next, .cells false [.int .i64 k]) :: setB bs2 (N + 1) _) (N + 1) = _
      rw [lk (N + 1) _ (by omega), lookB_setB, if_pos rfl, out (N + 1) (Nat.le_refl _), h.set]; rfl
    res := ((lk N _ (by omega)).trans (l2 N _ (by omega))).trans ((out N (by omega)).trans h.res)
    old := fun j h1 h2 => ((lk j _ (by omega)).trans (l2 j _ (by omega))).trans ((out j (by omega)).trans (h.old j h1 h2))
    l8 := .inr ⟨H.next + 1, cs, rfl, by omega, by show H.next + 1 < H.next + 2; omega, by simp [lookB], hok, rfl, by show 0 < s.k + 1; omega⟩
    l1 := h.l1.mono (by show H.next ≤ H.next + 2; omega) fun a ha h2 h3 => (lk a _ h3).trans ((l2 a _ (by omega)).trans (hl a fun b hb => h.dis a b _ _ ha hb))
    dis := fun a b n k e1 e2 => by
      cases e2
      rcases h.l1 with ⟨e, _⟩ | ⟨b', cs', e, _, h3, _⟩
      · rw [e] at e1; cases e1
      · rw [e] at e1; cases e1; omega }
theorem FL.lst {lo : Nat} {H : AH} {u : Value} {n : Nat} {g : Nat → Int} (h : FL lo H u n g) : Lst H.bs u n g := by
  rcases h with h | ⟨a, cs, h1, _, _, h4, h5, h6, _⟩
  · exact .inl h
  · exact .inr ⟨a, false, cs, h1, h4, h5, h6⟩
theorem KL.up {N p : Nat} {bs : List (Nat × ABlk)} {H : AH} {x : Int} {s : SV} {u1 u8 : Value} (h : KL N p bs H x s u1 u8) {nx : Nat} (hn : H.next ≤ nx) : KL N p bs ⟨nx, H.bs⟩ x s u1 u8 :=
  ⟨⟨h.mi.1, fun q hq => Nat.lt_of_lt_of_le (h.mi.2 q hq) hn⟩, Nat.lt_of_lt_of_le h.nx hn, h.pn, h.src, h.set, h.res, h.old, h.l1.mono hn fun _ _ _ _ => rfl, h.l8.mono hn fun _ _ _ _ => rfl, h.dis⟩
theorem KL.put {N p : Nat} {bs : List (Nat × ABlk)} {H : AH} {x : Int} {s : SV} {u1 u8 : Value} (h : KL N p bs H x s u1 u8) (s' : SV) (hn : s'.n = s.n) (hg : s'.g = s.g) (hk : s'.k = s.k) (hh : s'.h = s.h) : KL N p bs ⟨H.next, setB H.bs (N + 1) (.cells false [.int .i64 s'.p, u1, .int .i64 s'.w, .int .i64 s'.d, .int .i64 s'.f, .int .i64 s'.c, .int .i64 s'.m, .int .i64 s'.de, u8])⟩ x s' u1 u8 := by
  have hp := h.pn
  have e : ∀ j v, j ≠ N + 1 → lookB (setB H.bs (N + 1) v) j = lookB H.bs j := fun j v hj => by rw [lookB_setB, if_neg hj]
  exact ⟨h.mi.set _ _, h.nx, h.pn, (e _ _ (by omega)).trans h.src, by rw [lookB_setB, if_pos rfl, h.set]; rfl, (e _ _ (by omega)).trans h.res, fun j h1 h2 => (e j _ (by omega)).trans (h.old j h1 h2), by rw [hn, hg]; exact h.l1.mono (Nat.le_refl _) fun a _ h2 _ => e a _ (by omega), by rw [hk, hh]; exact h.l8.mono (Nat.le_refl _) fun a _ h2 _ => e a _ (by omega), h.dis⟩


end

section
set_option linter.unusedSimpArgs false
set_option linter.unusedVariables false
theorem below_sub : ∀ (n : Nat) (bs : List (Nat × ABlk)), (below n bs).Sublist bs
  | _, [] => List.Sublist.slnil
  | n, (j, k) :: r => by
    simp only [below]
    split
    · exact (below_sub n r).cons_cons _
    · exact (below_sub n r).cons _
theorem look_below (n : Nat) : ∀ (bs : List (Nat × ABlk)) (i : Nat), i < n → lookB (below n bs) i = lookB bs i
  | [], _, _ => rfl
  | (j, k) :: r, i, h => by
    simp only [below]
    split
    · simp only [lookB, look_below n r i h]
    · rename_i hb
      have : ¬ i = j := by
        rintro rfl
        exact hb (by simpa [Nat.blt_eq] using h)
      simp only [lookB, Nat.beq_eq, this, if_false, look_below n r i h]
/-- The cells of the faces of the first tiles. -/
noncomputable def faceC (s : SV) (t : Nat → Int) : Nat → List Value
  | 0 => []
  | i + 1 => faceC s t i ++ [.int .i64 (s.kindOf (t i)), .bool (s.redOf (t i))]
/-- Where the faces lie. -/
noncomputable def FI (s : SV) (t : Nat → Int) (N : Nat) (H : AH) (v : Value) (i : Nat) : Prop := (i = 0 ∧ v = .slice none 0 0) ∨ (0 < i ∧ ∃ b, v = .slice (some ⟨b, 0, none⟩) i 2 ∧ N < b ∧ b < H.next ∧ lookB H.bs b = some (.cells false (faceC s t i)))

end

section
set_option linter.unusedSimpArgs false
set_option linter.unusedVariables false


/-- What is kept of a memory whose next number was N, with a set in block N. -/
noncomputable def Kept (s : SV) (N : Nat) (bs : List (Nat × ABlk)) (H : AH) : Prop := MI H ∧ N < H.next ∧ lookB H.bs N = some (.cells false s.cs) ∧ ∀ j, j < N → lookB H.bs j = lookB bs j
theorem Kept.step {s : SV} {N : Nat} {bs : List (Nat × ABlk)} {H : AH} (h : Kept s N bs H) {bs2 : List (Nat × ABlk)} (hs : bs2.Sublist H.bs) (hk : ∀ j, j ≤ N → lookB bs2 j = lookB H.bs j) (c1 c2 : List Value) : Kept s N bs ⟨H.next + 2, (H.next + 1, .cells false c1) :: (H.next, .cells false c2) :: bs2⟩ := by
  obtain ⟨hM, hn, hN, hj⟩ := h
  refine ⟨(((hM.sub hs (Nat.le_refl _)).push (.cells false c2)).push (.cells false c1)), by show N < H.next + 2; omega, ?_, fun j hjN => ?_⟩
  · have e1 : ¬ N = H.next := by omega
    have e2 : ¬ N = H.next + 1 := by omega
    simp only [lookB, Nat.beq_eq, e1, e2, if_false]
    rw [hk N (Nat.le_refl _), hN]
  · have e1 : ¬ j = H.next := by omega
    have e2 : ¬ j = H.next + 1 := by omega
    simp only [lookB, Nat.beq_eq, e1, e2, if_false]
    rw [hk j (by omega), hj j hjN]
theorem FI.step {s : SV} {t : Nat → Int} {N : Nat} {H : AH} {i : Nat} (hn : N < H.next) {bs2 : List (Nat × ABlk)} (c2 : List Value) : FI s t N ⟨H.next + 2, (H.next + 1, .cells false (faceC s t (i + 1))) :: (H.next, .cells false c2) :: bs2⟩ (.slice (some ⟨H.next + 1, 0, none⟩) (i + 1) 2) (i + 1) :=
  .inr ⟨by omega, H.next + 1, rfl, by omega, by show H.next + 1 < H.next + 2; omega, by simp [lookB]⟩
end

section
set_option linter.unusedSimpArgs false
set_option linter.unusedVariables false

/-- An empty part behind the end of a list. -/
noncomputable def e0 : Value := .slice (some ⟨0, 0, some 0⟩) 0 1
end

section
set_option linter.unusedSimpArgs false
set_option linter.unusedVariables false

theorem NctA : ((tabT Try.prog) 24).map (fun z => z.ex.nat 83) = some none := by kernel_rfl
theorem CctA (call : Value → List Value → AH → Option (Value × AH)) {tm : Tm} {i j : Nat} {H : AH} {d : Option Tmp} {t : TypeId} {p : String} {a : Array Edge} {gd : Option (Nat × Bool)} : evOp (tabT Try.prog) call ⟨d, .call ⟨.value (.func 83), #[.tmp i, .tmp j], #[24, 22]⟩, t, p, a, gd⟩ (opd tm) H = call (.func (.func 83) #[] #[]) [tm.get i, tm.get j] H :=
  evOp_evO.trans (eo_call2n rfl rfl rfl NctA)
theorem NszA : ((tabT Try.prog) 24).map (fun z => (z.ex.nat 80, z.ex.mnz 80)) = some (none, none) := by kernel_rfl
theorem CszA (call : Value → List Value → AH → Option (Value × AH)) {tm : Tm} {i : Nat} {H : AH} {d : Option Tmp} {t : TypeId} {p : String} {a : Array Edge} {gd : Option (Nat × Bool)} : evOp (tabT Try.prog) call ⟨d, .call ⟨.value (.func 80), #[.tmp i], #[24]⟩, t, p, a, gd⟩ (opd tm) H = call (.func (.func 80) #[] #[]) [tm.get i] H :=
  evOp_evO.trans (eo_call1 rfl rfl NszA)
theorem NchkA : ((tabT Try.prog) 24).map (fun z => (z.ex.nat 63, z.ex.mnz 63)) = some (none, none) := by kernel_rfl
theorem CchkA (call : Value → List Value → AH → Option (Value × AH)) {tm : Tm} {i : Nat} {H : AH} {d : Option Tmp} {t : TypeId} {p : String} {a : Array Edge} {gd : Option (Nat × Bool)} : evOp (tabT Try.prog) call ⟨d, .call ⟨.value (.func 63), #[.tmp i], #[24]⟩, t, p, a, gd⟩ (opd tm) H = call (.func (.func 63) #[] #[]) [tm.get i] H :=
  evOp_evO.trans (eo_call1 rfl rfl NchkA)
theorem CbtA (call : Value → List Value → AH → Option (Value × AH)) {tm : Tm} {i k : Nat} {H : AH} {d : Option Tmp} {t : TypeId} {p : String} {a : Array Edge} {gd : Option (Nat × Bool)} : evOp (tabT Try.prog) call ⟨d, .call ⟨.value (.func 52), #[.tmp i, .const (.int .i64 0), .tmp k], #[3, 3, 3]⟩, t, p, a, gd⟩ (opd tm) H = call (.func (.func 52) #[] #[]) [tm.get i, .int .i64 0, tm.get k] H :=
  evOp_evO.trans (eo_call3 rfl rfl rfl rfl)
theorem FCD : tabF Try.prog 72 = some Try.f72 := by kernel_rfl
theorem kgCD : kpT 72 = false := by kernel_rfl
/-- What the rules say of a valid set, one by one. -/
theorem rules_of {s : SV} (he : s.err = 0) : (3 ≤ s.p ∧ s.p ≤ 4) ∧ (1 ≤ s.m ∧ s.m ≤ 4) ∧ (0 ≤ s.de ∧ s.de ≤ 20) ∧ s.size ≥ s.p * s.full + 1 + s.de := by
  obtain ⟨r0, h⟩ := firstE_step (m := 11) (i := 0) he (by simp [ruleE])
  obtain ⟨_, h⟩ := firstE_step (m := 10) (i := 1) h (by simp [ruleE])
  obtain ⟨_, h⟩ := firstE_step (m := 9) (i := 2) h (by simp [ruleE])
  obtain ⟨_, h⟩ := firstE_step (m := 8) (i := 3) h (by simp [ruleE])
  obtain ⟨_, h⟩ := firstE_step (m := 7) (i := 4) h (by simp [ruleE])
  obtain ⟨_, h⟩ := firstE_step (m := 6) (i := 5) h (by simp [ruleE])
  obtain ⟨_, h⟩ := firstE_step (m := 5) (i := 6) h (by simp [ruleE])
  obtain ⟨r7, h⟩ := firstE_step (m := 4) (i := 7) h (by simp [ruleE])
  obtain ⟨r8, h⟩ := firstE_step (m := 3) (i := 8) h (by simp [ruleE])
  obtain ⟨_, h⟩ := firstE_step (m := 2) (i := 9) h (by simp [ruleE])
  have h11 : ruleB s 11 = true := by
    have hr : s.reds = 0 := by
      simp only [firstE] at h
      split at h
      · rename_i c
        simpa [ruleB] using c
      · simpa [ruleE] using h
    simp only [firstE] at h
    have hb : ruleB s 10 = true := by simp [ruleB, hr]
    rw [if_pos hb] at h
    split at h
    · assumption
    · simp [ruleE] at h
  simp only [ruleB] at r0 r7 r8 h11
  obtain ⟨a0, a1⟩ := btw_iff.1 r0
  obtain ⟨b0, b1⟩ := btw_iff.1 r7
  obtain ⟨c0, c1⟩ := btw_iff.1 r8
  refine ⟨⟨a0, a1⟩, ⟨b0, b1⟩, ⟨c0, c1⟩, ?_⟩
  have hfull : s.full = 3 * s.m + 1 := by
    unfold SV.full
    rw [wrapI_small (n := 3 * s.m) (by omega) (by omega), wrapI_small (by omega) (by omega)]
  have hpf : 0 ≤ s.p * s.full ∧ s.p * s.full ≤ 52 := by
    rcases (by omega : s.p = 3 ∨ s.p = 4) with e | e <;> rw [e] <;> omega
  simp only [decide_eq_true_eq] at h11
  rw [wrapI_small (n := s.p * s.full) (by omega) (by omega), wrapI_small (n := s.p * s.full + 1) (by omega) (by omega), wrapI_small (by omega) (by omega)] at h11
  exact h11
theorem full_of {s : SV} (he : s.err = 0) : s.full = 3 * s.m + 1 := by
  obtain ⟨_, ⟨b0, b1⟩, _⟩ := rules_of he
  unfold SV.full
  rw [wrapI_small (n := 3 * s.m) (by omega) (by omega), wrapI_small (by omega) (by omega)]
/-- What checkDeal says. -/
noncomputable def SV.cd (s : SV) (t : Nat → Int) (n : Nat) (cut dealer : Int) : Int :=
  if s.err = 0 then
    if (n : Int) = s.size ∧ tErr s t n 0 = 0 then
      if btw cut 0 ((n : Int) - 1) = true ∧ btw dealer 0 (s.p - 1) = true then 0 else 2
    else 3
  else s.err
set_option maxRecDepth 10000 in
set_option maxHeartbeats 8000000 in
theorem cd_ev (call : Value → List Value → AH → Option (Value × AH)) (s : SV) (t : Nat → Int) (n : Nat) (cut dealer : Int) (hn : n ≤ 200)
    (h29 : ∀ (H : AH), lookB H.bs 0 = some (.ints s.g) → lookB H.bs 1 = some (.ints s.h) → call (.func (.func 63) #[] #[]) [s.val] H = some (.int .i64 s.err, H))
    (h31 : ∀ (H : AH), lookB H.bs 0 = some (.ints s.g) → lookB H.bs 1 = some (.ints s.h) → call (.func (.func 80) #[] #[]) [s.val] H = some (.int .i64 s.size, H))
    (h30 : ∀ (n l m : Int) (H : AH), call (.func (.func 52) #[] #[]) [.int .i64 n, .int .i64 l, .int .i64 m] H = some (.bool (btw n l m), H))
    (hct : ∀ (H : AH), lookB H.bs 0 = some (.ints s.g) → lookB H.bs 1 = some (.ints s.h) → lookB H.bs 2 = some (.ints t) → call (.func (.func 83) #[] #[]) [s.val, sl2 n] H = some (.int .i64 (s.ct t n), H)) :
    ∃ H', evFn (tabT Try.prog) call 300 kpT 72 Try.f72 [s.val, sl2 n, .int .i64 cut, .int .i64 dealer] (hpT s t) = some (.int .i64 (s.cd t n cut dealer), H') := by
  have kp := kgCD
  simp only [SV.val, sl2] at h29 h31 hct
  unfold SV.cd
  simp only [evFn, Try.f72, SV.val, hpT, sl2]
  by_cases c1 : s.err = 0
  · have hct0 : s.ct t n = tErr s t n 0 := by simp [SV.ct, c1]
    rw [hct0] at hct
    obtain ⟨_, _, _, hz, _⟩ := size_bounds c1
    obtain ⟨hp, _⟩ := rules_of c1
    have wn : wrapI .i64 ((n : Int) - 1) = (n : Int) - 1 := wrapI_small (by omega) (by omega)
    have wp : wrapI .i64 (s.p - 1) = s.p - 1 := wrapI_small (by omega) (by omega)
    rw [if_pos c1]
    by_cases c2 : (n : Int) = s.size
    · have c2' : ((n : Int) != s.size) = false := by simpa using c2
      by_cases c3 : tErr s t n 0 = 0
      · have c3' : (tErr s t n 0 != 0) = false := by simpa using c3
        rw [if_pos ⟨c2, c3⟩]
        cases c4 : btw cut 0 ((n : Int) - 1) with
        | false => simp [ec_skip, ec_label, ek_reg, ek_draw, ek_seq, ec_cond, ek_block, ec_loop, ec_exit, ec_ret, ec_scope, ek_nil, ek_op, opK_some, regK_some, seqK_normal, seqK_exit, seqK_ret, blockK_normal, blockK_exit, blockK_ret, evOp, vOp, hOpB, hOpU, hOp, hOpT, aAppendG_tab, aWanted, aYielded, opd, putT, closedV, aBin, intOp, sameK, mapO, joinR, hasAddr, boundOf, pushB, aAlloc, Value.cells, lookB, setB, Nat.beq_eq, tm_n_set, tm_get_set, tm_of_n, tm_of_get, tm_tr_set, tm_tr_of, cellV, putF, appR_eq, takeR_eq, dropR_eq, setR_eq, getR_eq, ↓C75, ↓C76, ↓C77, ↓C79, ↓C17, ↓C18, ↓C22, ↓C71, FA24_0, FA24_1, FA24_2, FA24_3, FA24_4, FA24_5, FA24_6, FA24_7, FA24_8, LD3, LD4, LD22, LD27, LDr, LD24, LEN22, IA22, tkc, cellAt, SV.cs, h29, h31, h30, hct, ↓CctA, ↓CszA, ↓CchkA, ↓CbtA, c1, c2', c3, c3', wn, wp, c4, undef, finF, takeM, resV, cleanedG, kp, below]
        | true =>
          cases c5 : btw dealer 0 (s.p - 1) with
          | false => simp [ec_skip, ec_label, ek_reg, ek_draw, ek_seq, ec_cond, ek_block, ec_loop, ec_exit, ec_ret, ec_scope, ek_nil, ek_op, opK_some, regK_some, seqK_normal, seqK_exit, seqK_ret, blockK_normal, blockK_exit, blockK_ret, evOp, vOp, hOpB, hOpU, hOp, hOpT, aAppendG_tab, aWanted, aYielded, opd, putT, closedV, aBin, intOp, sameK, mapO, joinR, hasAddr, boundOf, pushB, aAlloc, Value.cells, lookB, setB, Nat.beq_eq, tm_n_set, tm_get_set, tm_of_n, tm_of_get, tm_tr_set, tm_tr_of, cellV, putF, appR_eq, takeR_eq, dropR_eq, setR_eq, getR_eq, ↓C75, ↓C76, ↓C77, ↓C79, ↓C17, ↓C18, ↓C22, ↓C71, FA24_0, FA24_1, FA24_2, FA24_3, FA24_4, FA24_5, FA24_6, FA24_7, FA24_8, LD3, LD4, LD22, LD27, LDr, LD24, LEN22, IA22, tkc, cellAt, SV.cs, h29, h31, h30, hct, ↓CctA, ↓CszA, ↓CchkA, ↓CbtA, c1, c2', c3, c3', wn, wp, c4, c5, undef, finF, takeM, resV, cleanedG, kp, below]
          | true => simp [ec_skip, ec_label, ek_reg, ek_draw, ek_seq, ec_cond, ek_block, ec_loop, ec_exit, ec_ret, ec_scope, ek_nil, ek_op, opK_some, regK_some, seqK_normal, seqK_exit, seqK_ret, blockK_normal, blockK_exit, blockK_ret, evOp, vOp, hOpB, hOpU, hOp, hOpT, aAppendG_tab, aWanted, aYielded, opd, putT, closedV, aBin, intOp, sameK, mapO, joinR, hasAddr, boundOf, pushB, aAlloc, Value.cells, lookB, setB, Nat.beq_eq, tm_n_set, tm_get_set, tm_of_n, tm_of_get, tm_tr_set, tm_tr_of, cellV, putF, appR_eq, takeR_eq, dropR_eq, setR_eq, getR_eq, ↓C75, ↓C76, ↓C77, ↓C79, ↓C17, ↓C18, ↓C22, ↓C71, FA24_0, FA24_1, FA24_2, FA24_3, FA24_4, FA24_5, FA24_6, FA24_7, FA24_8, LD3, LD4, LD22, LD27, LDr, LD24, LEN22, IA22, tkc, cellAt, SV.cs, h29, h31, h30, hct, ↓CctA, ↓CszA, ↓CchkA, ↓CbtA, c1, c2', c3, c3', wn, wp, c4, c5, undef, finF, takeM, resV, cleanedG, kp, below]
      · have c3' : (tErr s t n 0 != 0) = true := by simpa using c3
        rw [if_neg (fun h => c3 h.2)]
        simp [ec_skip, ec_label, ek_reg, ek_draw, ek_seq, ec_cond, ek_block, ec_loop, ec_exit, ec_ret, ec_scope, ek_nil, ek_op, opK_some, regK_some, seqK_normal, seqK_exit, seqK_ret, blockK_normal, blockK_exit, blockK_ret, evOp, vOp, hOpB, hOpU, hOp, hOpT, aAppendG_tab, aWanted, aYielded, opd, putT, closedV, aBin, intOp, sameK, mapO, joinR, hasAddr, boundOf, pushB, aAlloc, Value.cells, lookB, setB, Nat.beq_eq, tm_n_set, tm_get_set, tm_of_n, tm_of_get, tm_tr_set, tm_tr_of, cellV, putF, appR_eq, takeR_eq, dropR_eq, setR_eq, getR_eq, ↓C75, ↓C76, ↓C77, ↓C79, ↓C17, ↓C18, ↓C22, ↓C71, FA24_0, FA24_1, FA24_2, FA24_3, FA24_4, FA24_5, FA24_6, FA24_7, FA24_8, LD3, LD4, LD22, LD27, LDr, LD24, LEN22, IA22, tkc, cellAt, SV.cs, h29, h31, h30, hct, ↓CctA, ↓CszA, ↓CchkA, ↓CbtA, c1, c2', c3, c3', undef, finF, takeM, resV, cleanedG, kp, below]
    · have c2' : ((n : Int) != s.size) = true := by simpa using c2
      rw [if_neg (fun h => c2 h.1)]
      simp [ec_skip, ec_label, ek_reg, ek_draw, ek_seq, ec_cond, ek_block, ec_loop, ec_exit, ec_ret, ec_scope, ek_nil, ek_op, opK_some, regK_some, seqK_normal, seqK_exit, seqK_ret, blockK_normal, blockK_exit, blockK_ret, evOp, vOp, hOpB, hOpU, hOp, hOpT, aAppendG_tab, aWanted, aYielded, opd, putT, closedV, aBin, intOp, sameK, mapO, joinR, hasAddr, boundOf, pushB, aAlloc, Value.cells, lookB, setB, Nat.beq_eq, tm_n_set, tm_get_set, tm_of_n, tm_of_get, tm_tr_set, tm_tr_of, cellV, putF, appR_eq, takeR_eq, dropR_eq, setR_eq, getR_eq, ↓C75, ↓C76, ↓C77, ↓C79, ↓C17, ↓C18, ↓C22, ↓C71, FA24_0, FA24_1, FA24_2, FA24_3, FA24_4, FA24_5, FA24_6, FA24_7, FA24_8, LD3, LD4, LD22, LD27, LDr, LD24, LEN22, IA22, tkc, cellAt, SV.cs, h29, h31, h30, hct, ↓CctA, ↓CszA, ↓CchkA, ↓CbtA, c1, c2', undef, finF, takeM, resV, cleanedG, kp, below]
  · have c1' : (s.err != 0) = true := by simpa using c1
    rw [if_neg c1]
    simp [ec_skip, ec_label, ek_reg, ek_draw, ek_seq, ec_cond, ek_block, ec_loop, ec_exit, ec_ret, ec_scope, ek_nil, ek_op, opK_some, regK_some, seqK_normal, seqK_exit, seqK_ret, blockK_normal, blockK_exit, blockK_ret, evOp, vOp, hOpB, hOpU, hOp, hOpT, aAppendG_tab, aWanted, aYielded, opd, putT, closedV, aBin, intOp, sameK, mapO, joinR, hasAddr, boundOf, pushB, aAlloc, Value.cells, lookB, setB, Nat.beq_eq, tm_n_set, tm_get_set, tm_of_n, tm_of_get, tm_tr_set, tm_tr_of, cellV, putF, appR_eq, takeR_eq, dropR_eq, setR_eq, getR_eq, ↓C75, ↓C76, ↓C77, ↓C79, ↓C17, ↓C18, ↓C22, ↓C71, FA24_0, FA24_1, FA24_2, FA24_3, FA24_4, FA24_5, FA24_6, FA24_7, FA24_8, LD3, LD4, LD22, LD27, LDr, LD24, LEN22, IA22, tkc, cellAt, SV.cs, h29, ↓CchkA, c1, c1', undef, finF, takeM, resV, cleanedG, kp, below]


end

section
set_option linter.unusedSimpArgs false
set_option linter.unusedVariables false

theorem no3 (x0 x1 x2 : Int) (h0 : 18446742845348904960 ≤ x0) (g0 : x0 < 18446744073709551616) (e1 : x1 = (6364136223846793005 * x0 + 1442695040888963407) % 18446744073709551616) (e2 : x2 = (6364136223846793005 * x1 + 1442695040888963407) % 18446744073709551616) (h1 : 18446742845348904960 ≤ x1) (h2 : 18446742845348904960 ≤ x2) : False := by
  have g1 : x1 < 18446744073709551616 := by omega
  have g2 : x2 < 18446744073709551616 := by omega
  obtain ⟨q0, hq0⟩ : ∃ q0 : Int, x1 = 6364136223846793005 * x0 + 1442695040888963407 - 18446744073709551616 * q0 := ⟨(6364136223846793005 * x0 + 1442695040888963407) / 18446744073709551616, by omega⟩
  obtain ⟨q1, hq1⟩ : ∃ q1 : Int, x2 = 6364136223846793005 * x1 + 1442695040888963407 - 18446744073709551616 * q1 := ⟨(6364136223846793005 * x1 + 1442695040888963407) / 18446744073709551616, by omega⟩
  have key : 3213406 * x0 + (-241617) * x1 + 4015367 * x2 = 18446744073709551616 * (8816261374873124290545556 * x0 - (25554342576739025687866218) * q0 - 4015367 * q1) + 36867123308639087180773214175753986042160095 := by omega
  clear e1 e2 hq0 hq1
  have lo : 128890269655543859021611008 ≤ 3213406 * x0 + (-241617) * x1 + 4015367 * x2 := by clear key; omega
  have hi : 3213406 * x0 + (-241617) * x1 + 4015367 * x2 ≤ 128890278831876950194126848 := by clear key; omega
  generalize (8816261374873124290545556 * x0 - (25554342576739025687866218) * q0 - 4015367 * q1) = t at key
  generalize 3213406 * x0 + (-241617) * x1 + 4015367 * x2 = z at key lo hi
  clear h0 g0 h1 h2 g1 g2
  omega

noncomputable def stepW (x : Int) : Int := wrapI .u64 (wrapI .u64 (x * 6364136223846793005) + 1442695040888963407)
theorem stepW_eq (x : Int) : stepW x = (6364136223846793005 * x + 1442695040888963407) % 18446744073709551616 := by
  simp only [stepW, wrapI]; omega
theorem stepW_bd (x : Int) : 0 ≤ stepW x ∧ stepW x < 18446744073709551616 := by
  rw [stepW_eq]; omega
noncomputable def wd (x : Int) : Int := x.fdiv 8589934592
theorem wd_eq (x : Int) : wd x = x / 8589934592 := Int.fdiv_eq_ediv_of_nonneg x (by omega)
theorem wd_bd (x : Int) : 0 ≤ wd (stepW x) ∧ wd (stepW x) < 2147483648 := by
  have := stepW_bd x
  rw [wd_eq]; omega
noncomputable def lim (n : Nat) : Int := 2147483648 - 2147483648 % (n : Int)
noncomputable def it : Nat → Int → Int
  | 0, x => x
  | k + 1, x => stepW (it k x)
noncomputable def nxs (n : Nat) (x : Int) : Int := if wd (it 1 x) < lim n then it 1 x else if wd (it 2 x) < lim n then it 2 x else it 3 x
theorem lim_bd {n : Nat} (h1 : 1 ≤ n) (h2 : n ≤ 144) : 2147483505 ≤ lim n ∧ lim n ≤ 2147483648 := by
  have h := Int.emod_lt_of_pos 2147483648 (show (0 : Int) < n by omega)
  have h0 := Int.emod_nonneg 2147483648 (show (n : Int) ≠ 0 by omega)
  unfold lim; omega
theorem it3_lt {n : Nat} (h1 : 1 ≤ n) (h2 : n ≤ 144) (x : Int) (a1 : ¬ wd (it 1 x) < lim n) (a2 : ¬ wd (it 2 x) < lim n) : wd (it 3 x) < lim n := by
  have hl := lim_bd h1 h2
  have b1 := stepW_bd x
  have b2 := stepW_bd (it 1 x)
  have b3 := stepW_bd (it 2 x)
  rcases Int.lt_or_le (wd (it 3 x)) (lim n) with h | h
  · exact h
  · exfalso
    simp only [it] at *
    rw [wd_eq] at a1 a2 h
    exact no3 (stepW x) (stepW (stepW x)) (stepW (stepW (stepW x))) (by omega) b1.2 (stepW_eq _) (stepW_eq _) (by omega) (by omega)
theorem nxs_it {n k : Nat} {x : Int} (hk : k ≤ 2) (ha : wd (it (k + 1) x) < lim n) (hb : ∀ j, 1 ≤ j → j ≤ k → ¬ wd (it j x) < lim n) : it (k + 1) x = nxs n x := by
  unfold nxs
  match k with
  | 0 => rw [if_pos ha]
  | 1 => rw [if_neg (hb 1 (by omega) (by omega)), if_pos ha]
  | 2 => rw [if_neg (hb 1 (by omega) (by omega)), if_neg (hb 2 (by omega) (by omega))]
  | k + 3 => omega
/-- The number that is drawn. -/
noncomputable def drw (n : Nat) (x : Int) : Nat := (wd (nxs n x)).toNat % n
theorem nxs_bd (n : Nat) (x : Int) : 0 ≤ wd (nxs n x) ∧ wd (nxs n x) < 2147483648 := by
  unfold nxs
  split
  · exact wd_bd _
  · split
    · exact wd_bd _
    · exact wd_bd _
theorem drw_lt {n : Nat} (h : 1 ≤ n) (x : Int) : drw n x < n := Nat.mod_lt _ h
theorem drw_eq {n : Nat} (h1 : 1 ≤ n) (h2 : n ≤ 144) (x : Int) : (wd (nxs n x)).tmod n = (drw n x : Int) := by
  have h := nxs_bd n x
  have : wd (nxs n x) = ((wd (nxs n x)).toNat : Int) := by omega
  rw [this]
  unfold drw
  rw [← Int.ofNat_tmod]
theorem wrapU {n : Nat} (h : n ≤ 144) : wrapI .u64 (n : Int) = n := by simp only [wrapI]; omega
theorem tmodL (n : Nat) : (2147483648 : Int).tmod n = 2147483648 % (n : Int) := Int.tmod_eq_emod_of_nonneg (by omega)
theorem limP {n : Nat} (h1 : 1 ≤ n) (h2 : n ≤ 144) : wrapI .u64 (2147483648 - (2147483648 : Int).tmod n) = lim n := by
  have := lim_bd h1 h2
  rw [tmodL]
  unfold lim at *
  simp only [wrapI]; omega
theorem SH33 (x : Int) : shOp .shr .u64 x 33 = some (.int .u64 (wd x)) := by
  simp [shOp, IntKind.bits, wd]
end

section
set_option linter.unusedSimpArgs false
set_option linter.unusedVariables false

theorem Nnext : ((tabT Try.prog) 123).map (fun z => (z.ex.nat 100, z.ex.mnz 100)) = some (none, none) := by kernel_rfl
theorem Cnext (call : Value → List Value → AH → Option (Value × AH)) {tm : Tm} {i : Nat} {H : AH} {d : Option Tmp} {t : TypeId} {p : String} {a : Array Edge} {gd : Option (Nat × Bool)} : evOp (tabT Try.prog) call ⟨d, .call ⟨.value (.func 100), #[.tmp i], #[123]⟩, t, p, a, gd⟩ (opd tm) H = call (.func (.func 100) #[] #[]) [tm.get i] H :=
  evOp_evO.trans (eo_call1 rfl rfl Nnext)
theorem Ndraw : ((tabT Try.prog) 108).map (fun z => z.ex.nat 96) = some none := by kernel_rfl
theorem Cdraw (call : Value → List Value → AH → Option (Value × AH)) {tm : Tm} {i j : Nat} {H : AH} {d : Option Tmp} {t : TypeId} {p : String} {a : Array Edge} {gd : Option (Nat × Bool)} : evOp (tabT Try.prog) call ⟨d, .call ⟨.value (.func 96), #[.tmp i, .tmp j], #[108, 3]⟩, t, p, a, gd⟩ (opd tm) H = call (.func (.func 96) #[] #[]) [tm.get i, tm.get j] H :=
  evOp_evO.trans (eo_call2n rfl rfl rfl Ndraw)
theorem LD40 (H : AH) (i off : Nat) : aLoad (tabT Try.prog) H 108 (.pointer (some ⟨i, off, none⟩)) = cellAt H.bs i off := ldc (by kernel_rfl) H i off
theorem ST40 (H : AH) (i off : Nat) (v : Value) : aStore (tabT Try.prog) H 108 (.pointer (some ⟨i, off, none⟩)) v = match lookB H.bs i with
    | some (.cells false cs) => if Nat.beq v.cells.toList.length 1 && Nat.ble (off + v.cells.toList.length) cs.length && v.cells.toList.all cellV then some { H with bs := setB H.bs i (.cells false (putF cs off v.cells.toList)) } else none
    | _ => none := sti (by kernel_rfl) H i off v
theorem ST3W (H : AH) (i off : Nat) (v : Value) : aStore (tabT Try.prog) H 3 (.pointer (some ⟨i, off, none⟩)) v = match lookB H.bs i with
    | some (.cells false cs) => if Nat.beq v.cells.toList.length 1 && Nat.ble (off + v.cells.toList.length) cs.length && v.cells.toList.all cellV then some { H with bs := setB H.bs i (.cells false (putF cs off v.cells.toList)) } else none
    | _ => none := sti (by kernel_rfl) H i off v
theorem CV3_25 (call : Value → List Value → AH → Option (Value × AH)) {tm : Tm} {j : Nat} {H : AH} {d : Option Tmp} {t : TypeId} {p : String} {a : Array Edge} {gd : Option (Nat × Bool)} : evOp (tabT Try.prog) call ⟨d, .convert 3 48 (.tmp j), t, p, a, gd⟩ (opd tm) H = match tm.get j with | .int _ n => some (.int .u64 (wrapI .u64 n), H) | _ => evO (tabT Try.prog) call (.convert 3 48 (.tmp j)) (opd tm) H := by
  rw [evOp_evO]
  split
  · rename_i kk n h
    refine evO_v ?_
    rw [cvt (k := .u64) (by kernel_rfl) (by kernel_rfl)]
    simp only [opd_tmp, h]
  · rfl
theorem CV25_3 (call : Value → List Value → AH → Option (Value × AH)) {tm : Tm} {j : Nat} {H : AH} {d : Option Tmp} {t : TypeId} {p : String} {a : Array Edge} {gd : Option (Nat × Bool)} : evOp (tabT Try.prog) call ⟨d, .convert 48 3 (.tmp j), t, p, a, gd⟩ (opd tm) H = match tm.get j with | .int _ n => some (.int .i64 (wrapI .i64 n), H) | _ => evO (tabT Try.prog) call (.convert 48 3 (.tmp j)) (opd tm) H := by
  rw [evOp_evO]
  split
  · rename_i kk n h
    refine evO_v ?_
    rw [cvt (k := .i64) (by kernel_rfl) (by kernel_rfl)]
    simp only [opd_tmp, h]
  · rfl
theorem kp42 : (kpT 100, gcT 100) = (true, false) := by kernel_rfl
theorem kp31 : (kpT 96, gcT 96) = (true, false) := by kernel_rfl
noncomputable def wB (x : Int) : ABlk := .cells false [.int .u64 x]
set_option maxRecDepth 10000 in
set_option maxHeartbeats 8000000 in
theorem next_ev (call : Value → List Value → AH → Option (Value × AH)) (p N : Nat) (bs : List (Nat × ABlk)) (x : Int) (h : lookB bs p = some (wB x)) :
    evFn (tabT Try.prog) call 300 kpT 100 Try.f100 [.pointer (some ⟨p, 0, none⟩)] ⟨N, bs⟩ = some (.int .u64 (wd (stepW x)), ⟨N, setB bs p (wB (stepW x))⟩) := by
  have kp := kp42
  simp only [Prod.mk.injEq] at kp
  obtain ⟨kp1, kp2⟩ := kp
  have sh := SH33 (stepW x)
  simp only [stepW] at sh
  unfold wB at h
  simp only [evFn, Try.f100]
  simp [ec_skip, ec_label, ek_reg, ek_draw, ek_seq, ec_cond, ek_block, ec_loop, ec_exit, ec_ret, ec_scope, ek_nil, ek_op, opK_some, regK_some, seqK_normal, seqK_exit, seqK_ret, blockK_normal, blockK_exit, blockK_ret, evOp, vOp, hOpB, hOpU, hOp, hOpT, aAppendG_tab, aWanted, aYielded, opd, putT, closedV, aBin, intOp, sameK, mapO, joinR, hasAddr, boundOf, pushB, aAlloc, Value.cells, lookB, setB, Nat.beq_eq, tm_n_set, tm_get_set, tm_of_n, tm_of_get, tm_tr_set, tm_tr_of, cellV, putF, appR_eq, takeR_eq, dropR_eq, setR_eq, getR_eq, ↓C75, ↓C76, ↓C77, ↓C79, ↓C17, ↓C18, ↓C22, ↓C71, FA24_0, FA24_1, FA24_2, FA24_3, FA24_4, FA24_5, FA24_6, FA24_7, FA24_8, LD3, LD4, LD22, LD27, LDr, LD24, LEN22, IA22, tkc, cellAt, LD40, ST40, h, lookB_setB, sh, wB, stepW, finF, takeM, resV, cleanedG, hasAddr, kp1, kp2]
noncomputable def IDr (p N : Nat) (bs : List (Nat × ABlk)) (x : Int) (n : Nat) (m : Nat) (A : AF) (H : AH) : Prop := ∃ k : Nat, k + m = 2 ∧ A.tm.n = 22 ∧ A.marks = [] ∧ A.tm.get 6 = .int .u64 (wd (it (k + 1) x)) ∧ A.tm.get 5 = .int .u64 (n : Int) ∧ A.tm.get 0 = .pointer (some ⟨p, 0, none⟩) ∧ H = ⟨N, setB bs p (wB (it (k + 1) x))⟩ ∧ ∀ j, 1 ≤ j → j ≤ k → ¬ wd (it j x) < lim n
noncomputable def QDr (p N : Nat) (bs : List (Nat × ABlk)) (x : Int) (n : Nat) (y : AX) (A' : AF) (H : AH) : Prop := y = .exit 0 ∧ A'.tm.n = 22 ∧ A'.marks = [] ∧ A'.tm.get 6 = .int .u64 (wd (nxs n x)) ∧ A'.tm.get 5 = .int .u64 (n : Int) ∧ H = ⟨N, setB bs p (wB (nxs n x))⟩
set_option maxRecDepth 10000 in
set_option maxHeartbeats 8000000 in
theorem draw_ev (call : Value → List Value → AH → Option (Value × AH)) (p N : Nat) (bs : List (Nat × ABlk)) (x : Int) (n : Nat) (h1 : 1 ≤ n) (h2 : n ≤ 144) (h : lookB bs p = some (wB x))
    (hnext : ∀ (bs : List (Nat × ABlk)) (y : Int), lookB bs p = some (wB y) → call (.func (.func 100) #[] #[]) [.pointer (some ⟨p, 0, none⟩)] ⟨N, bs⟩ = some (.int .u64 (wd (stepW y)), ⟨N, setB bs p (wB (stepW y))⟩)) :
    evFn (tabT Try.prog) call 300 kpT 96 Try.f96 [.pointer (some ⟨p, 0, none⟩), .int .i64 (n : Int)] ⟨N, bs⟩ = some (.int .i64 (drw n x : Int), ⟨N, setB bs p (wB (nxs n x))⟩) := by
  have kp := kp31
  simp only [Prod.mk.injEq] at kp
  obtain ⟨kp1, kp2⟩ := kp
  have wu := wrapU h2
  have lp := limP h1 h2
  have n0 : ¬ (n : Int) = 0 := by omega
  have nz : ¬ n = 0 := by omega
  have hn := hnext bs x h
  simp only [evFn, Try.f96]
  simp [ec_skip, ec_label, ek_reg, ek_draw, ek_seq, ec_cond, ek_block, ec_loop, ec_exit, ec_ret, ec_scope, ek_nil, ek_op, opK_some, regK_some, seqK_normal, seqK_exit, seqK_ret, blockK_normal, blockK_exit, blockK_ret, evOp, vOp, hOpB, hOpU, hOp, hOpT, aAppendG_tab, aWanted, aYielded, opd, putT, closedV, aBin, intOp, sameK, mapO, joinR, hasAddr, boundOf, pushB, aAlloc, Value.cells, lookB, setB, Nat.beq_eq, tm_n_set, tm_get_set, tm_of_n, tm_of_get, tm_tr_set, tm_tr_of, cellV, putF, appR_eq, takeR_eq, dropR_eq, setR_eq, getR_eq, ↓C75, ↓C76, ↓C77, ↓C79, ↓C17, ↓C18, ↓C22, ↓C71, FA24_0, FA24_1, FA24_2, FA24_3, FA24_4, FA24_5, FA24_6, FA24_7, FA24_8, LD3, LD4, LD22, LD27, LDr, LD24, LEN22, IA22, tkc, cellAt, ↓Cnext, ↓CV3_25, wu, hn]
  generalize hr : evLoop _ _ _ _ = r
  obtain ⟨y, A', H', rfl, rfl, hl, hmk, g6, g5, rfl⟩ := loop_go (Q := QDr p N bs x n) hr (IDr p N bs x n) 2 (by omega) ⟨0, by omega, rfl, rfl, rfl, rfl, rfl, rfl, fun j a b => by omega⟩ (by
    clear hr
    rintro m A H' ⟨k, hkm, hl, hmk, g6, g5, g0, rfl, hrej⟩
    simp only [runC]
    by_cases hacc : wd (it (k + 1) x) < lim n
    · have e := nxs_it (n := n) (x := x) (k := k) (by omega) hacc hrej
      have hge : ¬ lim n ≤ wd (it (k + 1) x) := by omega
      simp [ec_skip, ec_label, ek_reg, ek_draw, ek_seq, ec_cond, ek_block, ec_loop, ec_exit, ec_ret, ec_scope, ek_nil, ek_op, opK_some, regK_some, seqK_normal, seqK_exit, seqK_ret, blockK_normal, blockK_exit, blockK_ret, evOp, vOp, hOpB, hOpU, hOp, hOpT, aAppendG_tab, aWanted, aYielded, opd, putT, closedV, aBin, intOp, sameK, mapO, joinR, hasAddr, boundOf, pushB, aAlloc, Value.cells, lookB, setB, Nat.beq_eq, tm_n_set, tm_get_set, tm_of_n, tm_of_get, tm_tr_set, tm_tr_of, cellV, putF, appR_eq, takeR_eq, dropR_eq, setR_eq, getR_eq, ↓C75, ↓C76, ↓C77, ↓C79, ↓C17, ↓C18, ↓C22, ↓C71, FA24_0, FA24_1, FA24_2, FA24_3, FA24_4, FA24_5, FA24_6, FA24_7, FA24_8, LD3, LD4, LD22, LD27, LDr, LD24, LEN22, IA22, tkc, cellAt, hl, hmk, g6, g5, g0, lp, n0, nz, hge]
      refine .inr ⟨by simp, rfl, by simp [tm_n_set, hl], rfl, by simp [tm_get_set, tm_n_set, hl, g6, e], by simp [tm_get_set, tm_n_set, hl, g5], by simp [e]⟩
    · cases m with
      | zero =>
        obtain rfl : k = 2 := by omega
        exact absurd (it3_lt h1 h2 x (hrej 1 (by omega) (by omega)) (hrej 2 (by omega) (by omega))) hacc
      | succ m =>
        have hge : lim n ≤ wd (it (k + 1) x) := by omega
        have hn2 := hnext (setB bs p (wB (it (k + 1) x))) (it (k + 1) x) (by simp [lookB_setB, h])
        rw [setB_setB] at hn2
        simp [ec_skip, ec_label, ek_reg, ek_draw, ek_seq, ec_cond, ek_block, ec_loop, ec_exit, ec_ret, ec_scope, ek_nil, ek_op, opK_some, regK_some, seqK_normal, seqK_exit, seqK_ret, blockK_normal, blockK_exit, blockK_ret, evOp, vOp, hOpB, hOpU, hOp, hOpT, aAppendG_tab, aWanted, aYielded, opd, putT, closedV, aBin, intOp, sameK, mapO, joinR, hasAddr, boundOf, pushB, aAlloc, Value.cells, lookB, setB, Nat.beq_eq, tm_n_set, tm_get_set, tm_of_n, tm_of_get, tm_tr_set, tm_tr_of, cellV, putF, appR_eq, takeR_eq, dropR_eq, setR_eq, getR_eq, ↓C75, ↓C76, ↓C77, ↓C79, ↓C17, ↓C18, ↓C22, ↓C71, FA24_0, FA24_1, FA24_2, FA24_3, FA24_4, FA24_5, FA24_6, FA24_7, FA24_8, LD3, LD4, LD22, LD27, LDr, LD24, LEN22, IA22, tkc, cellAt, ↓Cnext, hl, hmk, g6, g5, g0, lp, n0, nz, hge, hn2]
        refine .inl ⟨rfl, m, rfl, k + 1, by omega, ?_⟩
        simp [tm_get_set, tm_n_set, hl, g5, g0, hmk, it]
        intro j a b
        by_cases hj : j = k + 1
        · subst hj; simpa using hacc
        · simpa using hrej j a (by omega))
  have dq := drw_eq h1 h2 x
  have wq : wrapI .i64 (drw n x : Int) = drw n x := by
    have := drw_lt h1 x
    exact wrapI_small (by omega) (by omega)
  simp [ec_skip, ec_label, ek_reg, ek_draw, ek_seq, ec_cond, ek_block, ec_loop, ec_exit, ec_ret, ec_scope, ek_nil, ek_op, opK_some, regK_some, seqK_normal, seqK_exit, seqK_ret, blockK_normal, blockK_exit, blockK_ret, evOp, vOp, hOpB, hOpU, hOp, hOpT, aAppendG_tab, aWanted, aYielded, opd, putT, closedV, aBin, intOp, sameK, mapO, joinR, hasAddr, boundOf, pushB, aAlloc, Value.cells, lookB, setB, Nat.beq_eq, tm_n_set, tm_get_set, tm_of_n, tm_of_get, tm_tr_set, tm_tr_of, cellV, putF, appR_eq, takeR_eq, dropR_eq, setR_eq, getR_eq, ↓C75, ↓C76, ↓C77, ↓C79, ↓C17, ↓C18, ↓C22, ↓C71, FA24_0, FA24_1, FA24_2, FA24_3, FA24_4, FA24_5, FA24_6, FA24_7, FA24_8, LD3, LD4, LD22, LD27, LDr, LD24, LEN22, IA22, tkc, cellAt, ↓CV25_3, hl, hmk, g6, g5, n0, nz, dq, wq, finF, takeM, resV, cleanedG, hasAddr, kp1, kp2]




end

section
set_option linter.unusedSimpArgs false
set_option linter.unusedVariables false

theorem kp14 : (kpT 81, gcT 81) = (false, false) := by kernel_rfl

def upd (f : Nat → Int) (i : Nat) (v : Int) : Nat → Int := fun k => if k = i then v else f k
def swp (f : Nat → Int) (i j : Nat) : Nat → Int := upd (upd f i (f j)) j (f i)
theorem intsL_set (f : Nat → Int) (n i : Nat) (v : Int) : (intsL f n).set i (.int .i64 v) = intsL (upd f i v) n := by
  apply List.ext_getElem?
  intro k
  rw [List.getElem?_set, intsL_len]
  by_cases hk : k < n
  · by_cases e : i = k
    · subst e; rw [if_pos rfl, if_pos hk]; rw [intsL_at _ _ _ hk]; simp only [upd, if_true]
    · rw [if_neg e, intsL_at _ _ _ hk, intsL_at _ _ _ hk]
      have e' : ¬ k = i := fun h => e h.symm
      simp only [upd, e', if_false]
  · rw [List.getElem?_eq_none (l := intsL (upd f i v) n) (by rw [intsL_len]; omega), List.getElem?_eq_none (l := intsL f n) (by rw [intsL_len]; omega)]
    split
    · rename_i e; subst e; rw [if_neg hk]
    · rfl
/-- The exchanges of a shuffle, from place i on downwards. -/
noncomputable def shF : Nat → (Nat → Int) → Int → (Nat → Int) × Int
  | 0, f, x => (f, x)
  | i + 1, f, x => shF i (swp f (i + 1) (drw (i + 2) x)) (nxs (i + 2) x)
end

section
set_option linter.unusedSimpArgs false
set_option linter.unusedVariables false


theorem ixr {T : TypeId → Option TI} {t e : TypeId} {len : Nat} (h1 : (T t).map (·.desc) = some (.array len e)) (h2 : (T e).map (·.size) = some 1) (i k : Nat) (h : k < len) : aIndexAddr T t (.pointer (some ⟨i, 0, none⟩)) (.int .i64 (k : Int)) = some (.pointer (some ⟨i, k, none⟩)) := by
  obtain ⟨_, _, _, _, ht⟩ := tdesc h1
  cases he : T e with
  | none => rw [he] at h2; cases h2
  | some q =>
    rw [he] at h2
    simp only [Option.map_some, Option.some.injEq] at h2
    have hb : Nat.blt k len = true := by simpa [Nat.blt_eq] using h
    simp [aIndexAddr, natV, ht, he, h2, hb]
theorem IX38 (i k : Nat) (h : k < 144) : aIndexAddr (tabT Try.prog) 106 (.pointer (some ⟨i, 0, none⟩)) (.int .i64 (k : Int)) = some (.pointer (some ⟨i, k, none⟩)) := ixr (e := 3) (by kernel_rfl) (by kernel_rfl) i k h
theorem LD38 (H : AH) (i off : Nat) : aLoad (tabT Try.prog) H 106 (.pointer (some ⟨i, off, none⟩)) = match lookB H.bs i with | some (.cells _ cs) => (takeCells cs off 144).map (fun l => .agg l.toArray) | _ => none := lda (by kernel_rfl) H i off
theorem AL38 {call : Value → List Value → AH → Option (Value × AH)} {g : Operand → Option Value} {H : AH} {d : Option Tmp} {t : TypeId} {p : String} {a : Array Edge} {gd : Option (Nat × Bool)} : evOp (tabT Try.prog) call ⟨d, .alloc 106, t, p, a, gd⟩ g H = some (.pointer (some ⟨H.next, 0, none⟩), ⟨H.next + 1, (H.next, .cells false (intsL (fun _ => 0) 144)) :: H.bs⟩) :=
  evOp_evO.trans (eo_alloc (cs := intsL (fun _ => 0) 144) (by kernel_rfl))
theorem intsL_all (f : Nat → Int) (n : Nat) : (intsL f n).all cellV = true := by
  simp [intsL, cellV]
theorem putF_all {cs l : List Value} (h : l.length = cs.length) : putF cs 0 l = l := by
  rw [putF_eq (by omega)]
  apply List.ext_getElem?
  intro k
  rw [putCells_get _ _ _ _ (by omega)]
  by_cases hk : k < l.length
  · rw [if_pos (by omega), Nat.sub_zero]
  · rw [if_neg (by omega), List.getElem?_eq_none (by omega), List.getElem?_eq_none (by omega)]
theorem ST38 {H : AH} {i : Nat} {f0 : Nat → Int} (h : lookB H.bs i = some (.cells false (intsL f0 144))) (f : Nat → Int) : aStore (tabT Try.prog) H 106 (.pointer (some ⟨i, 0, none⟩)) (.agg ⟨intsL f 144⟩) = some { H with bs := setB H.bs i (.cells false (intsL f 144)) } := by
  rw [sti (z := 144) (by kernel_rfl)]
  simp only [h, Value.cells]
  have hl := intsL_len f 144
  have h0 := intsL_len f0 144
  have ha := intsL_all f 144
  generalize intsL f 144 = L at *
  generalize intsL f0 144 = L0 at *
  rw [putF_all (by omega)]
  simp [hl, h0, ha]
theorem hasAddr_ints (f : Nat → Int) (n d : Nat) : hasAddr (d + 2) (.agg ⟨intsL f n⟩) = false := by
  simp [hasAddr, intsL]

/-- The memory in a shuffle. -/
noncomputable def memS (N : Nat) (bs : List (Nat × ABlk)) (f : Nat → Int) (x : Int) : AH := ⟨N + 3, (N + 2, .cells false (intsL (fun _ => 0) 144)) :: (N + 1, .cells false [.int .u64 x]) :: (N, .cells false (intsL f 144)) :: bs⟩
noncomputable def IS (N : Nat) (bs : List (Nat × ABlk)) (r : (Nat → Int) × Int) (m : Nat) (A : AF) (H : AH) : Prop := ∃ (j : Int) (f : Nat → Int) (x : Int), shF m f x = r ∧ m ≤ 143 ∧ (m = 0 → j ≤ 0) ∧ (0 < m → j = (m : Int)) ∧ A.tm.n = 29 ∧ A.marks = [] ∧ A.tm.get 7 = .int .i64 j ∧ A.tm.get 3 = .pointer (some ⟨N, 0, none⟩) ∧ A.tm.get 5 = .pointer (some ⟨N + 1, 0, none⟩) ∧ A.tm.get 6 = .pointer (some ⟨N + 2, 0, none⟩) ∧ H = memS N bs f x
noncomputable def QS (N : Nat) (bs : List (Nat × ABlk)) (r : (Nat → Int) × Int) (y : AX) (A : AF) (H : AH) : Prop := y = .exit 0 ∧ A.tm.n = 29 ∧ A.marks = [] ∧ A.tm.get 3 = .pointer (some ⟨N, 0, none⟩) ∧ A.tm.get 6 = .pointer (some ⟨N + 2, 0, none⟩) ∧ H = memS N bs r.1 r.2
theorem swap_list (f : Nat → Int) (i j : Nat) : ((intsL f 144).set i (.int .i64 (f j))).set j (.int .i64 (f i)) = intsL (swp f i j) 144 := by
  rw [intsL_set, intsL_set]; rfl
set_option maxRecDepth 10000 in
set_option maxHeartbeats 8000000 in
theorem shuffled_ev (call : Value → List Value → AH → Option (Value × AH)) (N : Nat) (bs : List (Nat × ABlk)) (f : Nat → Int) (n : Nat) (x : Int) (hn : n ≤ 144) (hd : decrK bs = true) (hb : ∀ p ∈ bs, p.1 < N)
    (hdraw : ∀ (f : Nat → Int) (n : Nat) (y : Int), 1 ≤ n → n ≤ 144 → call (.func (.func 96) #[] #[]) [.pointer (some ⟨N + 1, 0, none⟩), .int .i64 (n : Int)] (memS N bs f y) = some (.int .i64 (drw n y : Int), memS N bs f (nxs n y))) :
    evFn (tabT Try.prog) call 300 kpT 81 Try.f81 [.agg ⟨intsL f 144⟩, .int .i64 (n : Int), .int .u64 x] ⟨N, bs⟩ = some (.agg ⟨intsL (shF (n - 1) f x).1 144⟩, ⟨N + 3, bs⟩) := by
  have kp := kp14
  simp only [Prod.mk.injEq] at kp
  obtain ⟨kp1, kp2⟩ := kp
  have w1 : wrapI .i64 ((n : Int) - 1) = (n : Int) - 1 := wrapI_small (by omega) (by omega)
  simp only [evFn, Try.f81]
  simp [ec_skip, ec_label, ek_reg, ek_draw, ek_seq, ec_cond, ek_block, ec_loop, ec_exit, ec_ret, ec_scope, ek_nil, ek_op, opK_some, regK_some, seqK_normal, seqK_exit, seqK_ret, blockK_normal, blockK_exit, blockK_ret, evOp, vOp, hOpB, hOpU, hOp, hOpT, aAppendG_tab, aWanted, aYielded, opd, putT, closedV, aBin, intOp, sameK, mapO, joinR, hasAddr, boundOf, pushB, aAlloc, Value.cells, lookB, setB, Nat.beq_eq, tm_n_set, tm_get_set, tm_of_n, tm_of_get, tm_tr_set, tm_tr_of, cellV, putF, appR_eq, takeR_eq, dropR_eq, setR_eq, getR_eq, ↓C75, ↓C76, ↓C77, ↓C79, ↓C17, ↓C18, ↓C22, ↓C71, FA24_0, FA24_1, FA24_2, FA24_3, FA24_4, FA24_5, FA24_6, FA24_7, FA24_8, LD3, LD4, LD22, LD27, LDr, LD24, LEN22, IA22, tkc, cellAt, ↓AL38, w1]
  generalize hr : evLoop _ _ _ _ = r
  obtain ⟨y, A', H', rfl, rfl, hl, hmk, g3, g6, rfl⟩ := loop_go (Q := QS N bs (shF (n - 1) f x)) hr (IS N bs (shF (n - 1) f x)) (n - 1) (by omega) ⟨(n : Int) - 1, f, x, rfl, by omega, fun h => by omega, fun h => by omega, rfl, rfl, rfl, rfl, rfl, rfl, rfl⟩ (by
    clear hr
    rintro m A H' ⟨j, f, x, hs, hm, hj0, hj1, hl, hmk, g7, g3, g5, g6, rfl⟩
    simp only [runC]
    cases m with
    | zero =>
      have hj : ¬ 0 < j := by have := hj0 rfl; omega
      simp [ec_skip, ec_label, ek_reg, ek_draw, ek_seq, ec_cond, ek_block, ec_loop, ec_exit, ec_ret, ec_scope, ek_nil, ek_op, opK_some, regK_some, seqK_normal, seqK_exit, seqK_ret, blockK_normal, blockK_exit, blockK_ret, evOp, vOp, hOpB, hOpU, hOp, hOpT, aAppendG_tab, aWanted, aYielded, opd, putT, closedV, aBin, intOp, sameK, mapO, joinR, hasAddr, boundOf, pushB, aAlloc, Value.cells, lookB, setB, Nat.beq_eq, tm_n_set, tm_get_set, tm_of_n, tm_of_get, tm_tr_set, tm_tr_of, cellV, putF, appR_eq, takeR_eq, dropR_eq, setR_eq, getR_eq, ↓C75, ↓C76, ↓C77, ↓C79, ↓C17, ↓C18, ↓C22, ↓C71, FA24_0, FA24_1, FA24_2, FA24_3, FA24_4, FA24_5, FA24_6, FA24_7, FA24_8, LD3, LD4, LD22, LD27, LDr, LD24, LEN22, IA22, tkc, cellAt, hl, hmk, g7, g3, g5, g6, hj]
      refine .inr ⟨by simp, rfl, by simp [tm_n_set, hl], rfl, by simp [tm_get_set, tm_n_set, hl, g3], by simp [tm_get_set, tm_n_set, hl, g6], ?_⟩
      rw [← hs]; rfl
    | succ m =>
      obtain ⟨i, hi⟩ : ∃ i, i = m + 1 := ⟨_, rfl⟩
      obtain rfl : j = (i : Int) := by have := hj1 (by omega); omega
      have hj : 0 < (i : Int) := by omega
      have hjn : 0 < i := by omega
      have w2 : wrapI .i64 ((i : Int) + 1) = (i : Int) + 1 := wrapI_small (by omega) (by omega)
      have w3 : wrapI .i64 ((i : Int) - 1) = ((m : Nat) : Int) := by rw [wrapI_small (by omega) (by omega)]; omega
      have hdr := hdraw f (i + 1) x (by omega) (by omega)
      have dl := drw_lt (n := i + 1) (by omega) x
      obtain ⟨q, hq⟩ : ∃ q, q = drw (i + 1) x := ⟨_, rfl⟩
      rw [← hq, show ((i + 1 : Nat) : Int) = (i : Int) + 1 by omega] at hdr
      rw [← hq] at dl
      clear hj0 hj1
      have ixi := IX38 N i (by omega)
      have ixq := IX38 N q (by omega)
      simp only [memS] at hdr
      simp [ec_skip, ec_label, ek_reg, ek_draw, ek_seq, ec_cond, ek_block, ec_loop, ec_exit, ec_ret, ec_scope, ek_nil, ek_op, opK_some, regK_some, seqK_normal, seqK_exit, seqK_ret, blockK_normal, blockK_exit, blockK_ret, evOp, vOp, hOpB, hOpU, hOp, hOpT, aAppendG_tab, aWanted, aYielded, opd, putT, closedV, aBin, intOp, sameK, mapO, joinR, hasAddr, boundOf, pushB, aAlloc, Value.cells, lookB, setB, Nat.beq_eq, tm_n_set, tm_get_set, tm_of_n, tm_of_get, tm_tr_set, tm_tr_of, cellV, putF, appR_eq, takeR_eq, dropR_eq, setR_eq, getR_eq, ↓C75, ↓C76, ↓C77, ↓C79, ↓C17, ↓C18, ↓C22, ↓C71, FA24_0, FA24_1, FA24_2, FA24_3, FA24_4, FA24_5, FA24_6, FA24_7, FA24_8, LD3, LD4, LD22, LD27, LDr, LD24, LEN22, IA22, tkc, cellAt, ↓Cdraw, hl, hmk, g7, g3, g5, g6, hj, hjn, w2, hdr, memS]
      generalize hX : evDrawX _ _ _ _ _ = X
      have hM : decrK ((N + 2, ABlk.cells false (intsL (fun _ => 0) 144)) :: (N + 1, ABlk.cells false [Value.int .u64 (nxs (i + 1) x)]) :: (N, ABlk.cells false (intsL f 144)) :: bs) = true := (((MI.push (H := ⟨N, bs⟩) ⟨hd, hb⟩ _).push _).push _).1
      obtain ⟨tm, rfl, hn', u7, u3, u5, u6⟩ := draw_any (H' := memS N bs (swp f i q) (nxs (i + 1) x)) (Pt := fun tm => tm.get 7 = .int .i64 (i : Int) ∧ tm.get 3 = .pointer (some ⟨N, 0, none⟩) ∧ tm.get 5 = .pointer (some ⟨N + 1, 0, none⟩) ∧ tm.get 6 = .pointer (some ⟨N + 2, 0, none⟩)) hX (by kernel_rfl) hM (by
        clear hX
        generalize hMM : befs _ = M
        have o1 : ordB M 9 4 = true := by rw [← hMM]; kernel_rfl
        have o2 : ordB M 9 7 = true := by rw [← hMM]; kernel_rfl
        have o3 : ordB M 11 4 = true := by rw [← hMM]; kernel_rfl
        have o4 : ordB M 11 7 = true := by rw [← hMM]; kernel_rfl
        have o5 : ordB M 9 11 = true := by rw [← hMM]; kernel_rfl
        have o6 : ordB M 11 9 = true := by rw [← hMM]; kernel_rfl
        clear hMM
        have c1 := intsL_at f 144 i (by omega)
        have c2 := intsL_at f 144 q (by omega)
        have cl := intsL_len f 144
        have sw := swap_list f i q
        simp only [memS]
        rw [← sw]
        generalize intsL f 144 = L at c1 c2 cl ⊢
        generalize intsL (fun _ => 0) 144 = Z at ⊢
        clear sw
        have st1 : aStore (tabT Try.prog) ⟨N + 3, (N + 2, ABlk.cells false Z) :: (N + 1, ABlk.cells false [Value.int .u64 (nxs (i + 1) x)]) :: (N, ABlk.cells false L) :: bs⟩ 3 (.pointer (some ⟨N, i, none⟩)) (.int .i64 (f q)) = some ⟨N + 3, (N + 2, ABlk.cells false Z) :: (N + 1, ABlk.cells false [Value.int .u64 (nxs (i + 1) x)]) :: (N, ABlk.cells false (L.set i (.int .i64 (f q)))) :: bs⟩ := by
          have h : i < 144 := by omega
          rw [ST3W]; simp [lookB, setB, putF, Value.cells, cl, cellV, setR_eq, Nat.beq_eq, Nat.ble_eq, h]; omega
        have st2 : aStore (tabT Try.prog) ⟨N + 3, (N + 2, ABlk.cells false Z) :: (N + 1, ABlk.cells false [Value.int .u64 (nxs (i + 1) x)]) :: (N, ABlk.cells false (L.set i (.int .i64 (f q)))) :: bs⟩ 3 (.pointer (some ⟨N, q, none⟩)) (.int .i64 (f i)) = some ⟨N + 3, (N + 2, ABlk.cells false Z) :: (N + 1, ABlk.cells false [Value.int .u64 (nxs (i + 1) x)]) :: (N, ABlk.cells false ((L.set i (.int .i64 (f q))).set q (.int .i64 (f i)))) :: bs⟩ := by
          have h : q < 144 := by omega
          rw [ST3W]; simp [lookB, setB, putF, Value.cells, cl, cellV, setR_eq, Nat.beq_eq, Nat.ble_eq, h]; omega
        simp [mapO, drRun, drOp, dr3, looks, guardT, tmpsOf, Op.operands, Call.operands, wantedR, gOf, finT, natMem, isNil, writesF, evOp, vOp, hOpB, hOpU, hOp, hOpT, aAppendG_tab, opd, closedV, aBin, intOp, sameK, opdO, boundOf, undef, lookB, Nat.beq_eq, tm_n_set, tm_get_set, tm_of_n, tm_of_get, tm_tr_set, tm_tr_of, b02, b12, b32, ↓G75, W75, ↓G76, W76, ↓G77, W77, ↓G79, W79, ↓G17, W17, ↓G18, W18, ↓G22, W22, ↓G71, W71, tv, all1, roB, roK, news, newOnes, decr, tkc, cellAt, LD3, LD4, LD22, LD27, LDr, LD24, LEN22, IA22, hl, g7, g3, g5, g6, ixi, ixq, c1, c2, st1, st2, Nat.ble_eq, Nat.blt_eq, wheap, all1, tv]
        refine ⟨_, _, ⟨rfl, rfl⟩, by simp [dynOK, b02, b12, b32, b03, b13, b23, o1, o2, o3, o4, o5, o6, hl, Nat.blt_eq, Nat.beq_eq], by simp [wheap, news, b02, b12, b32, Nat.beq_eq, all1], by simp [finT, tm_get_set, tm_n_set, hl, g7, g3, g5, g6]⟩)
      clear hX
      simp [tm_n_set, hl] at hn'
      simp [ec_skip, ec_label, ek_reg, ek_draw, ek_seq, ec_cond, ek_block, ec_loop, ec_exit, ec_ret, ec_scope, ek_nil, ek_op, opK_some, regK_some, seqK_normal, seqK_exit, seqK_ret, blockK_normal, blockK_exit, blockK_ret, evOp, vOp, hOpB, hOpU, hOp, hOpT, aAppendG_tab, aWanted, aYielded, opd, putT, closedV, aBin, intOp, sameK, mapO, joinR, hasAddr, boundOf, pushB, aAlloc, Value.cells, lookB, setB, Nat.beq_eq, tm_n_set, tm_get_set, tm_of_n, tm_of_get, tm_tr_set, tm_tr_of, cellV, putF, appR_eq, takeR_eq, dropR_eq, setR_eq, getR_eq, ↓C75, ↓C76, ↓C77, ↓C79, ↓C17, ↓C18, ↓C22, ↓C71, FA24_0, FA24_1, FA24_2, FA24_3, FA24_4, FA24_5, FA24_6, FA24_7, FA24_8, LD3, LD4, LD22, LD27, LDr, LD24, LEN22, IA22, tkc, cellAt, hl, hmk, hn', u7, u3, u5, u6]
      refine ⟨_, _, _, ⟨rfl, rfl, rfl⟩, .inl ⟨rfl, m, rfl, (m : Int), swp f i q, nxs (i + 1) x, ?_, by omega, fun h => by omega, fun h => rfl, ?_, ?_, ?_, ?_, ?_, ?_, ?_⟩⟩
      · rw [← hs, hi, hq, hi]; rfl
      all_goals simp [tm_get_set, tm_n_set, hn', u7, u3, u5, u6, w3, memS, hmk])
  have t1 := intsL_len (shF (n - 1) f x).1 144
  have t2 : List.take 144 (intsL (shF (n - 1) f x).1 144) = intsL (shF (n - 1) f x).1 144 := List.take_of_length_le (by rw [t1]; omega)
  have st := ST38 (H := memS N bs (shF (n - 1) f x).1 (shF (n - 1) f x).2) (i := N + 2) (f0 := fun _ => 0) (by simp [memS, lookB]) (shF (n - 1) f x).1
  simp only [memS] at st
  have ha := hasAddr_ints (shF (n - 1) f x).1 144 2
  have hbl := below_all N bs hb
  have n1 : ¬ N + 1 < N := by omega
  have n2 : ¬ N + 2 < N := by omega
  simp [ec_skip, ec_label, ek_reg, ek_draw, ek_seq, ec_cond, ek_block, ec_loop, ec_exit, ec_ret, ec_scope, ek_nil, ek_op, opK_some, regK_some, seqK_normal, seqK_exit, seqK_ret, blockK_normal, blockK_exit, blockK_ret, evOp, vOp, hOpB, hOpU, hOp, hOpT, aAppendG_tab, aWanted, aYielded, opd, putT, closedV, aBin, intOp, sameK, mapO, joinR, hasAddr, boundOf, pushB, aAlloc, Value.cells, lookB, setB, Nat.beq_eq, tm_n_set, tm_get_set, tm_of_n, tm_of_get, tm_tr_set, tm_tr_of, cellV, putF, appR_eq, takeR_eq, dropR_eq, setR_eq, getR_eq, ↓C75, ↓C76, ↓C77, ↓C79, ↓C17, ↓C18, ↓C22, ↓C71, FA24_0, FA24_1, FA24_2, FA24_3, FA24_4, FA24_5, FA24_6, FA24_7, FA24_8, LD3, LD4, LD22, LD27, LDr, LD24, LEN22, IA22, tkc, cellAt, hl, hmk, g3, g6, memS, LD38, t1, t2, st, finF, takeM, resV, cleanedG, ha, below, hbl, n1, n2, Nat.blt_eq, kp1, kp2]




end

section
set_option linter.unusedSimpArgs false
set_option linter.unusedVariables false

theorem Nsize : ((tabT Try.prog) 24).map (fun z => (z.ex.nat 38, z.ex.mnz 38)) = some (none, none) := by kernel_rfl
theorem Csize (call : Value → List Value → AH → Option (Value × AH)) {tm : Tm} {i : Nat} {H : AH} {d : Option Tmp} {t : TypeId} {p : String} {a : Array Edge} {gd : Option (Nat × Bool)} : evOp (tabT Try.prog) call ⟨d, .call ⟨.value (.func 38), #[.tmp i], #[24]⟩, t, p, a, gd⟩ (opd tm) H = call (.func (.func 38) #[] #[]) [tm.get i] H :=
  evOp_evO.trans (eo_call1 rfl rfl Nsize)
theorem NvalidW : ((tabT Try.prog) 24).map (fun z => (z.ex.nat 57, z.ex.mnz 57)) = some (none, none) := by kernel_rfl
theorem CvalidW (call : Value → List Value → AH → Option (Value × AH)) {tm : Tm} {i : Nat} {H : AH} {d : Option Tmp} {t : TypeId} {p : String} {a : Array Edge} {gd : Option (Nat × Bool)} : evOp (tabT Try.prog) call ⟨d, .call ⟨.value (.func 57), #[.tmp i], #[24]⟩, t, p, a, gd⟩ (opd tm) H = call (.func (.func 57) #[] #[]) [tm.get i] H :=
  evOp_evO.trans (eo_call1 rfl rfl NvalidW)
theorem Npsize : ((tabT Try.prog) 24).map (fun z => (z.ex.nat 80, z.ex.mnz 80)) = some (none, none) := by kernel_rfl
theorem Cpsize (call : Value → List Value → AH → Option (Value × AH)) {tm : Tm} {i : Nat} {H : AH} {d : Option Tmp} {t : TypeId} {p : String} {a : Array Edge} {gd : Option (Nat × Bool)} : evOp (tabT Try.prog) call ⟨d, .call ⟨.value (.func 80), #[.tmp i], #[24]⟩, t, p, a, gd⟩ (opd tm) H = call (.func (.func 80) #[] #[]) [tm.get i] H :=
  evOp_evO.trans (eo_call1 rfl rfl Npsize)
theorem Cshuf (call : Value → List Value → AH → Option (Value × AH)) {tm : Tm} {i j k : Nat} {H : AH} {d : Option Tmp} {t : TypeId} {p : String} {a : Array Edge} {gd : Option (Nat × Bool)} : evOp (tabT Try.prog) call ⟨d, .call ⟨.value (.func 81), #[.tmp i, .tmp j, .tmp k], #[106, 3, 108]⟩, t, p, a, gd⟩ (opd tm) H = call (.func (.func 81) #[] #[]) [tm.get i, tm.get j, tm.get k] H :=
  evOp_evO.trans (eo_call3 rfl rfl rfl rfl)
theorem Ncopied : ((tabT Try.prog) 22).map (fun z => (z.ex.nat 73, z.ex.mnz 73)) = some (none, none) := by kernel_rfl
theorem Ccopied (call : Value → List Value → AH → Option (Value × AH)) {tm : Tm} {i : Nat} {H : AH} {d : Option Tmp} {t : TypeId} {p : String} {a : Array Edge} {gd : Option (Nat × Bool)} : evOp (tabT Try.prog) call ⟨d, .call ⟨.value (.func 73), #[.tmp i], #[22]⟩, t, p, a, gd⟩ (opd tm) H = call (.func (.func 73) #[] #[]) [tm.get i] H :=
  evOp_evO.trans (eo_call1 rfl rfl Ncopied)
theorem kp7W : kpT 39 = false := by kernel_rfl
theorem kp13 : kpT 38 = false := by kernel_rfl
theorem kp29 : kpT 57 = false := by kernel_rfl
theorem kp15 : kpT 73 = false := by kernel_rfl
theorem gc7 : gcT 39 = false := by kernel_rfl
theorem gc15 : gcT 73 = false := by kernel_rfl
theorem F7n : tabF Try.prog 39 = some Try.f39 := by kernel_rfl
theorem F13n : tabF Try.prog 38 = some Try.f38 := by kernel_rfl
theorem F29n : tabF Try.prog 57 = some Try.f57 := by kernel_rfl
theorem F16n : tabF Try.prog 54 = some Try.f54 := by kernel_rfl
theorem F15n : tabF Try.prog 73 = some Try.f73 := by kernel_rfl
theorem F14n : tabF Try.prog 81 = some Try.f81 := by kernel_rfl

set_option maxRecDepth 10000 in
set_option maxHeartbeats 8000000 in
theorem valid_evW (call : Value → List Value → AH → Option (Value × AH)) (s : SV) (hc : ∀ (H : AH), lookB H.bs 0 = some (.ints s.g) → lookB H.bs 1 = some (.ints s.h) → call (.func (.func 63) #[] #[]) [s.val] H = some (.int .i64 s.err, H)) :
    ∃ H', evFn (tabT Try.prog) call 300 kpT 57 Try.f57 [s.val] s.hp = some (.bool (decide (s.err = 0)), H') := by
  have kp := kp29
  simp only [SV.val, SV.hp] at hc
  simp only [evFn, Try.f57, SV.val, SV.hp]
  simp [ec_skip, ec_label, ek_reg, ek_draw, ek_seq, ec_cond, ek_block, ec_loop, ec_exit, ec_ret, ec_scope, ek_nil, ek_op, opK_some, regK_some, seqK_normal, seqK_exit, seqK_ret, blockK_normal, blockK_exit, blockK_ret, evOp, vOp, hOpB, hOpU, hOp, hOpT, aAppendG_tab, aWanted, aYielded, opd, putT, closedV, aBin, intOp, sameK, mapO, joinR, hasAddr, boundOf, pushB, aAlloc, Value.cells, lookB, setB, Nat.beq_eq, tm_n_set, tm_get_set, tm_of_n, tm_of_get, tm_tr_set, tm_tr_of, cellV, putF, appR_eq, takeR_eq, dropR_eq, setR_eq, getR_eq, ↓C75, ↓C76, ↓C77, ↓C79, ↓C17, ↓C18, ↓C22, ↓C71, FA24_0, FA24_1, FA24_2, FA24_3, FA24_4, FA24_5, FA24_6, FA24_7, FA24_8, LD3, LD4, LD22, LD27, LDr, LD24, LEN22, IA22, tkc, cellAt, SV.cs, hc, finF, takeM, resV, kp]
  by_cases he : s.err = 0 <;> simp [he]
noncomputable def aValid (s : SV) : Option Value := some (.bool (decide (s.err = 0)))
theorem ok29W : AnsOK (runH L4) 57 (ans1 aValid) := ans1_ok fun s v h => by
  cases h
  refine ⟨rfl, fun _ _ => ?_⟩
  obtain ⟨H', h⟩ := valid_evW (inH L4) s (fun H h0 h1 => L4_17 s H h0 h1)
  exact ⟨H', runH_fn F29n rfl h⟩
theorem ok16W : AnsOK (runH L4) 54 (ans1 aRsize) := ans1_ok fun s v h => by
  cases h
  refine ⟨rfl, fun _ _ => ?_⟩
  obtain ⟨H', h⟩ := rsize_ev (inH L4) (fun s H h0 h1 => L4_18 s H h0 h1) (fun s H h0 h1 => L4_79 s H h0 h1) s
  exact ⟨H', runH_fn F16n rfl h⟩
noncomputable def V0 : Hnd := orH (canH 57 (ans1 aValid)) L4
theorem V0_ok : CallOK Try.prog V0 := orH_ok (canH_ok (runH_ok L4_ok) ok29W) L4_ok
theorem V0_29 (s : SV) (H : AH) (h0 : lookB H.bs 0 = some (.ints s.g)) (h1 : lookB H.bs 1 = some (.ints s.h)) : inH V0 (.func (.func 57) #[] #[]) [s.val] H = some (.bool (decide (s.err = 0)), H) := inH_hd (orH_l (canH_set h0 h1))
theorem V0_30 (s : SV) (H : AH) (h0 : lookB H.bs 0 = some (.ints s.g)) (h1 : lookB H.bs 1 = some (.ints s.h)) : inH V0 (.func (.func 80) #[] #[]) [s.val] H = some (.int .i64 s.size, H) := inH_hd (orH_r (canH_other rfl) (orH_r (canH_other rfl) (orH_r (canH_other rfl) (orH_l (orH_l (orH_r rfl (orH_r (canH_other rfl) (orH_r (canH_other rfl) (canH_set h0 h1)))))))))
set_option maxRecDepth 10000 in
set_option maxHeartbeats 8000000 in
theorem psize_ev (call : Value → List Value → AH → Option (Value × AH)) (s : SV) (hv : ∀ (H : AH), lookB H.bs 0 = some (.ints s.g) → lookB H.bs 1 = some (.ints s.h) → call (.func (.func 57) #[] #[]) [s.val] H = some (.bool (decide (s.err = 0)), H))
    (hz : ∀ (H : AH), lookB H.bs 0 = some (.ints s.g) → lookB H.bs 1 = some (.ints s.h) → call (.func (.func 80) #[] #[]) [s.val] H = some (.int .i64 s.size, H)) :
    ∃ H', evFn (tabT Try.prog) call 300 kpT 38 Try.f38 [s.val] s.hp = some (.int .i64 s.rsize, H') := by
  have kp := kp13
  simp only [SV.val, SV.hp] at hv hz
  simp only [evFn, Try.f38, SV.val, SV.hp]
  by_cases he : s.err = 0
  · simp [ec_skip, ec_label, ek_reg, ek_draw, ek_seq, ec_cond, ek_block, ec_loop, ec_exit, ec_ret, ec_scope, ek_nil, ek_op, opK_some, regK_some, seqK_normal, seqK_exit, seqK_ret, blockK_normal, blockK_exit, blockK_ret, evOp, vOp, hOpB, hOpU, hOp, hOpT, aAppendG_tab, aWanted, aYielded, opd, putT, closedV, aBin, intOp, sameK, mapO, joinR, hasAddr, boundOf, pushB, aAlloc, Value.cells, lookB, setB, Nat.beq_eq, tm_n_set, tm_get_set, tm_of_n, tm_of_get, tm_tr_set, tm_tr_of, cellV, putF, appR_eq, takeR_eq, dropR_eq, setR_eq, getR_eq, ↓C75, ↓C76, ↓C77, ↓C79, ↓C17, ↓C18, ↓C22, ↓C71, FA24_0, FA24_1, FA24_2, FA24_3, FA24_4, FA24_5, FA24_6, FA24_7, FA24_8, LD3, LD4, LD22, LD27, LDr, LD24, LEN22, IA22, tkc, cellAt, ↓CvalidW, ↓Cpsize, SV.cs, hv, hz, he, SV.rsize, finF, takeM, resV, kp]
  · simp [ec_skip, ec_label, ek_reg, ek_draw, ek_seq, ec_cond, ek_block, ec_loop, ec_exit, ec_ret, ec_scope, ek_nil, ek_op, opK_some, regK_some, seqK_normal, seqK_exit, seqK_ret, blockK_normal, blockK_exit, blockK_ret, evOp, vOp, hOpB, hOpU, hOp, hOpT, aAppendG_tab, aWanted, aYielded, opd, putT, closedV, aBin, intOp, sameK, mapO, joinR, hasAddr, boundOf, pushB, aAlloc, Value.cells, lookB, setB, Nat.beq_eq, tm_n_set, tm_get_set, tm_of_n, tm_of_get, tm_tr_set, tm_tr_of, cellV, putF, appR_eq, takeR_eq, dropR_eq, setR_eq, getR_eq, ↓C75, ↓C76, ↓C77, ↓C79, ↓C17, ↓C18, ↓C22, ↓C71, FA24_0, FA24_1, FA24_2, FA24_3, FA24_4, FA24_5, FA24_6, FA24_7, FA24_8, LD3, LD4, LD22, LD27, LDr, LD24, LEN22, IA22, tkc, cellAt, ↓CvalidW, ↓Cpsize, SV.cs, hv, hz, he, SV.rsize, finF, takeM, resV, kp]
theorem ok13 : AnsOK (runH V0) 38 (ans1 aRsize) := ans1_ok fun s v h => by
  cases h
  refine ⟨rfl, fun _ _ => ?_⟩
  obtain ⟨H', h⟩ := psize_ev (inH V0) s (V0_29 s) (V0_30 s)
  exact ⟨H', runH_fn F13n rfl h⟩
noncomputable def V1 : Hnd := orH (canH 38 (ans1 aRsize)) (orH (canH 54 (ans1 aRsize)) V0)
theorem V1_ok : CallOK Try.prog V1 := orH_ok (canH_ok (runH_ok V0_ok) ok13) (orH_ok (canH_ok (runH_ok L4_ok) ok16W) V0_ok)
theorem V1_13 (s : SV) (H : AH) (h0 : lookB H.bs 0 = some (.ints s.g)) (h1 : lookB H.bs 1 = some (.ints s.h)) : V1 (.func (.func 38) #[] #[]) [s.val] H = some (.int .i64 s.rsize, H) := orH_l (canH_set h0 h1)
end

section
set_option linter.unusedSimpArgs false
set_option linter.unusedVariables false
theorem intsL_take (f : Nat → Int) (n m : Nat) (h : m ≤ n) : (intsL f n).take m = intsL f m := by
  apply List.ext_getElem?
  intro k
  rw [List.getElem?_take]
  by_cases hk : k < m
  · rw [if_pos hk, intsL_at _ _ _ hk, intsL_at _ _ _ (by omega)]
  · rw [if_neg hk, List.getElem?_eq_none (by rw [intsL_len]; omega)]
theorem tkn (f : Nat → Int) (m : Nat) (h : m ≤ 144) : takeCells (intsL f 144) 0 m = some (intsL f m) := by
  rw [tkc, List.drop_zero, if_pos (by rw [intsL_len]; omega), intsL_take f 144 m h]
theorem src22 {bs : List (Nat × ABlk)} {b : Nat} {f : Nat → Int} {ro : Bool} (h : lookB bs b = some (.cells ro (intsL f 144))) (m : Nat) (hm : m ≤ 144) : srcCells bs (.slice (some ⟨b, 0, none⟩) m 1) 1 = some (intsL f m) := by
  have := tkn f m hm
  simp [srcCells, h, this]
/-- What is left of a copy of the first n. -/
def cpV (N : Nat) : Nat → Value
  | 0 => .slice none 0 0
  | n + 1 => .slice (some ⟨N, 0, none⟩) (n + 1) 1
noncomputable def cpH (N : Nat) (bs : List (Nat × ABlk)) (f : Nat → Int) : Nat → AH
  | 0 => ⟨N, bs⟩
  | n + 1 => ⟨N + 1, (N, .cells false (intsL f (n + 1))) :: bs⟩
set_option maxRecDepth 10000 in
set_option maxHeartbeats 8000000 in
theorem copied_ev (call : Value → List Value → AH → Option (Value × AH)) (N b n : Nat) (bs : List (Nat × ABlk)) (f : Nat → Int) (hn : n ≤ 144) (hb : ∀ p ∈ bs, p.1 < N) (h : lookB bs b = some (.cells false (intsL f 144))) :
    evFn (tabT Try.prog) call 300 kpT 73 Try.f73 [.slice (some ⟨b, 0, none⟩) n 1] ⟨N, bs⟩ = some (cpV N n, cpH N bs f n) := by
  have kp := kp15
  have gc := gc15
  have src := src22 h n hn
  have hbl := below_all N bs hb
  have al := intsL_all f n
  simp only [evFn, Try.f73]
  cases n with
  | zero =>
    simp [ec_skip, ec_label, ek_reg, ek_draw, ek_seq, ec_cond, ek_block, ec_loop, ec_exit, ec_ret, ec_scope, ek_nil, ek_op, opK_some, regK_some, seqK_normal, seqK_exit, seqK_ret, blockK_normal, blockK_exit, blockK_ret, evOp, vOp, hOpB, hOpU, hOp, hOpT, aAppendG_tab, aWanted, aYielded, opd, putT, closedV, aBin, intOp, sameK, mapO, joinR, hasAddr, boundOf, pushB, aAlloc, Value.cells, lookB, setB, Nat.beq_eq, tm_n_set, tm_get_set, tm_of_n, tm_of_get, tm_tr_set, tm_tr_of, cellV, putF, appR_eq, takeR_eq, dropR_eq, setR_eq, getR_eq, ↓C75, ↓C76, ↓C77, ↓C79, ↓C17, ↓C18, ↓C22, ↓C71, FA24_0, FA24_1, FA24_2, FA24_3, FA24_4, FA24_5, FA24_6, FA24_7, FA24_8, LD3, LD4, LD22, LD27, LDr, LD24, LEN22, IA22, tkc, cellAt, AP22, APT22, sliceLen, hbl, cpV, cpH, finF, takeM, resV, cleanedG, hasAddr, kp, gc]
  | succ m =>
    have hm : m ≤ 1000 := by omega
    have h1 : (m + 1) * 8 ≤ 1000000000000 := by omega
    have h2 : m + 1 ≤ 1000000000000 := by omega
    have h3 : m ≤ 999999999999 := by omega
    simp only [cpV, cpH]
    generalize intsL f (m + 1) = L at *
    simp [ec_skip, ec_label, ek_reg, ek_draw, ek_seq, ec_cond, ek_block, ec_loop, ec_exit, ec_ret, ec_scope, ek_nil, ek_op, opK_some, regK_some, seqK_normal, seqK_exit, seqK_ret, blockK_normal, blockK_exit, blockK_ret, evOp, vOp, hOpB, hOpU, hOp, hOpT, aAppendG_tab, aWanted, aYielded, opd, putT, closedV, aBin, intOp, sameK, mapO, joinR, hasAddr, boundOf, pushB, aAlloc, Value.cells, lookB, setB, Nat.beq_eq, tm_n_set, tm_get_set, tm_of_n, tm_of_get, tm_tr_set, tm_tr_of, cellV, putF, appR_eq, takeR_eq, dropR_eq, setR_eq, getR_eq, ↓C75, ↓C76, ↓C77, ↓C79, ↓C17, ↓C18, ↓C22, ↓C71, FA24_0, FA24_1, FA24_2, FA24_3, FA24_4, FA24_5, FA24_6, FA24_7, FA24_8, LD3, LD4, LD22, LD27, LDr, LD24, LEN22, IA22, tkc, cellAt, AP22, APT22, sliceLen, dstCells, src, al, h1, h2, h3, Nat.ble_eq, cpV, cpH, finF, takeM, resV, cleanedG, hasAddr, kp, gc]

theorem SA38 {H : AH} {i n : Nat} {cs : List Value} {ro : Bool} (h : lookB H.bs i = some (.cells ro cs)) (hl : cs.length = 144) (hn : n ≤ 144) : aSliceArr (tabT Try.prog) H 106 (.pointer (some ⟨i, 0, none⟩)) none (some (.int .i64 (n : Int))) = some (.slice (some ⟨i, 0, none⟩) n 1) := by
  have h1 : ((tabT Try.prog) 106).map (·.desc) = some (.array 144 3) := by kernel_rfl
  have h2 : ((tabT Try.prog) 3).map (·.size) = some 1 := by kernel_rfl
  obtain ⟨_, _, _, _, ht⟩ := tdesc h1
  cases he : (tabT Try.prog) 3 with
  | none => rw [he] at h2; cases h2
  | some q =>
    rw [he] at h2
    simp only [Option.map_some, Option.some.injEq] at h2
    simp [aSliceArr, bnd, natV, ht, he, h2, h, hl, hn, Nat.ble_eq]

theorem AS38 (a : Addr) (l h : Option Value) : aSlice (tabT Try.prog) 106 (.pointer (some a)) l h = none := by kernel_rfl

/-! ### the wall -/
noncomputable def idf (i : Nat) : Nat → Int := fun k => if k < i then (k : Int) else 0
theorem idf_step (i : Nat) : upd (idf i) i (i : Int) = idf (i + 1) := by
  funext k
  unfold upd idf
  by_cases h : k = i
  · subst h; rw [if_pos rfl, if_pos (by omega)]
  · rw [if_neg h]
    by_cases h2 : k < i
    · rw [if_pos h2, if_pos (by omega)]
    · rw [if_neg h2, if_neg (by omega)]
theorem idf_zero : idf 0 = fun _ => 0 := by
  funext k
  unfold idf
  rw [if_neg (by omega)]
noncomputable def IW (s : SV) (n N : Nat) (bs : List (Nat × ABlk)) (x : Int) (m : Nat) (A : AF) (H : AH) : Prop := ∃ i : Nat, i + m = n ∧ A.tm.n = 25 ∧ A.marks = [] ∧ A.tm.get 11 = .int .i64 (i : Int) ∧ A.tm.get 10 = .int .i64 (n : Int) ∧ A.tm.get 5 = .int .i64 (n : Int) ∧ A.tm.get 6 = .pointer (some ⟨N + 1, 0, none⟩) ∧ A.tm.get 1 = .int .u64 x ∧ H = ⟨N + 2, (N + 1, .cells false (intsL (idf i) 144)) :: (N, .cells false s.cs) :: bs⟩
noncomputable def QW (s : SV) (n N : Nat) (bs : List (Nat × ABlk)) (x : Int) (y : AX) (A : AF) (H : AH) : Prop := y = .exit 0 ∧ A.tm.n = 25 ∧ A.marks = [] ∧ A.tm.get 5 = .int .i64 (n : Int) ∧ A.tm.get 6 = .pointer (some ⟨N + 1, 0, none⟩) ∧ A.tm.get 1 = .int .u64 x ∧ H = ⟨N + 2, (N + 1, .cells false (intsL (idf n) 144)) :: (N, .cells false s.cs) :: bs⟩
/-- The tiles of a wall, by their places. -/
noncomputable def wallF (n : Nat) (x : Int) : Nat → Int := (shF (n - 1) (idf n) x).1
noncomputable def wallH (s : SV) (N : Nat) (bs : List (Nat × ABlk)) (W : Nat → Int) : Nat → AH
  | 0 => ⟨N + 5, bs⟩
  | n + 1 => ⟨N + 6, (N + 5, .cells false (intsL W (n + 1))) :: (N + 1, .cells false (intsL W 144)) :: (N, .cells false s.cs) :: bs⟩
set_option maxRecDepth 10000 in
set_option maxHeartbeats 8000000 in
theorem wall_ev (call : Value → List Value → AH → Option (Value × AH)) (s : SV) (x : Int) (n N : Nat) (bs : List (Nat × ABlk)) (hn : n ≤ 144) (hr : s.rsize = (n : Int)) (hM : MI ⟨N, bs⟩) (H0 : lookB bs 0 = some (.ints s.g)) (H1 : lookB bs 1 = some (.ints s.h)) (hN : 2 ≤ N)
    (hsize : ∀ (H : AH), lookB H.bs 0 = some (.ints s.g) → lookB H.bs 1 = some (.ints s.h) → call (.func (.func 38) #[] #[]) [s.val] H = some (.int .i64 s.rsize, H))
    (hshuf : ∀ (f : Nat → Int) (N : Nat) (bs : List (Nat × ABlk)), MI ⟨N, bs⟩ → call (.func (.func 81) #[] #[]) [.agg ⟨intsL f 144⟩, .int .i64 (n : Int), .int .u64 x] ⟨N, bs⟩ = some (.agg ⟨intsL (shF (n - 1) f x).1 144⟩, ⟨N + 3, bs⟩))
    (hcop : ∀ (N b : Nat) (bs : List (Nat × ABlk)) (f : Nat → Int), (∀ p ∈ bs, p.1 < N) → lookB bs b = some (.cells false (intsL f 144)) → call (.func (.func 73) #[] #[]) [.slice (some ⟨b, 0, none⟩) n 1] ⟨N, bs⟩ = some (cpV N n, cpH N bs f n)) :
    evFn (tabT Try.prog) call 300 kpT 39 Try.f39 [s.val, .int .u64 x] ⟨N, bs⟩ = some (cpV (N + 5) n, wallH s N bs (wallF n x) n) := by
  have kp := kp7W
  have gc := gc7
  have n0 : ¬ 0 = N := by omega
  have n1 : ¬ 1 = N := by omega
  rw [hr] at hsize
  simp only [SV.val] at hsize
  have hsz := hsize ⟨N + 1, (N, .cells false s.cs) :: bs⟩ (by simp [lookB, Nat.beq_eq, n0, H0]) (by simp [lookB, Nat.beq_eq, n1, H1])
  simp only [SV.cs] at hsz
  simp only [evFn, Try.f39, SV.val]
  simp [ec_skip, ec_label, ek_reg, ek_draw, ek_seq, ec_cond, ek_block, ec_loop, ec_exit, ec_ret, ec_scope, ek_nil, ek_op, opK_some, regK_some, seqK_normal, seqK_exit, seqK_ret, blockK_normal, blockK_exit, blockK_ret, evOp, vOp, hOpB, hOpU, hOp, hOpT, aAppendG_tab, aWanted, aYielded, opd, putT, closedV, aBin, intOp, sameK, mapO, joinR, hasAddr, boundOf, pushB, aAlloc, Value.cells, lookB, setB, Nat.beq_eq, tm_n_set, tm_get_set, tm_of_n, tm_of_get, tm_tr_set, tm_tr_of, cellV, putF, appR_eq, takeR_eq, dropR_eq, setR_eq, getR_eq, ↓C75, ↓C76, ↓C77, ↓C79, ↓C17, ↓C18, ↓C22, ↓C71, FA24_0, FA24_1, FA24_2, FA24_3, FA24_4, FA24_5, FA24_6, FA24_7, FA24_8, LD3, LD4, LD22, LD27, LDr, LD24, LEN22, IA22, tkc, cellAt, ↓Csize, hsz, ↓AL38]
  generalize hr : evLoop _ _ _ _ = r
  obtain ⟨y, A', H', rfl, rfl, hl, hmk, g5, g6, g1, rfl⟩ := loop_go (Q := QW s n N bs x) hr (IW s n N bs x) n (by omega) ⟨0, by omega, rfl, rfl, rfl, rfl, rfl, rfl, rfl, by rw [idf_zero]; rfl⟩ (by
    clear hr
    rintro m A H' ⟨i, him, hl, hmk, g11, g10, g5, g6, g1, rfl⟩
    simp only [runC]
    cases m with
    | zero =>
      have hi : ¬ i < n := by omega
      obtain rfl : i = n := by omega
      simp [ec_skip, ec_label, ek_reg, ek_draw, ek_seq, ec_cond, ek_block, ec_loop, ec_exit, ec_ret, ec_scope, ek_nil, ek_op, opK_some, regK_some, seqK_normal, seqK_exit, seqK_ret, blockK_normal, blockK_exit, blockK_ret, evOp, vOp, hOpB, hOpU, hOp, hOpT, aAppendG_tab, aWanted, aYielded, opd, putT, closedV, aBin, intOp, sameK, mapO, joinR, hasAddr, boundOf, pushB, aAlloc, Value.cells, lookB, setB, Nat.beq_eq, tm_n_set, tm_get_set, tm_of_n, tm_of_get, tm_tr_set, tm_tr_of, cellV, putF, appR_eq, takeR_eq, dropR_eq, setR_eq, getR_eq, ↓C75, ↓C76, ↓C77, ↓C79, ↓C17, ↓C18, ↓C22, ↓C71, FA24_0, FA24_1, FA24_2, FA24_3, FA24_4, FA24_5, FA24_6, FA24_7, FA24_8, LD3, LD4, LD22, LD27, LDr, LD24, LEN22, IA22, tkc, cellAt, hl, hmk, g11, g10, g5, g6, g1]
      exact .inr ⟨by simp, rfl, by simp [tm_n_set, hl], rfl, by simp [tm_get_set, tm_n_set, hl, g5], by simp [tm_get_set, tm_n_set, hl, g6], by simp [tm_get_set, tm_n_set, hl, g1], rfl⟩
    | succ m =>
      have hi : i < n := by omega
      have hw : wrapI .i64 ((i : Int) + 1) = ((i + 1 : Nat) : Int) := by rw [wrapI_small (by omega) (by omega)]; rfl
      have ixi := IX38 (N + 1) i (by omega)
      have il := intsL_len (idf i) 144
      have is := intsL_set (idf i) 144 i (i : Int)
      rw [idf_step] at is
      have hi143 : i ≤ 143 := by omega
      generalize intsL (idf i) 144 = L at il is ⊢
      simp [ec_skip, ec_label, ek_reg, ek_draw, ek_seq, ec_cond, ek_block, ec_loop, ec_exit, ec_ret, ec_scope, ek_nil, ek_op, opK_some, regK_some, seqK_normal, seqK_exit, seqK_ret, blockK_normal, blockK_exit, blockK_ret, evOp, vOp, hOpB, hOpU, hOp, hOpT, aAppendG_tab, aWanted, aYielded, opd, putT, closedV, aBin, intOp, sameK, mapO, joinR, hasAddr, boundOf, pushB, aAlloc, Value.cells, lookB, setB, Nat.beq_eq, tm_n_set, tm_get_set, tm_of_n, tm_of_get, tm_tr_set, tm_tr_of, cellV, putF, appR_eq, takeR_eq, dropR_eq, setR_eq, getR_eq, ↓C75, ↓C76, ↓C77, ↓C79, ↓C17, ↓C18, ↓C22, ↓C71, FA24_0, FA24_1, FA24_2, FA24_3, FA24_4, FA24_5, FA24_6, FA24_7, FA24_8, LD3, LD4, LD22, LD27, LDr, LD24, LEN22, IA22, tkc, cellAt, hl, hmk, g11, g10, g5, g6, g1, hi, ixi, ST3W, il, is, hi143, Nat.ble_eq]
      refine .inl ⟨rfl, m, rfl, i + 1, by omega, ?_⟩
      simp [tm_get_set, tm_n_set, hl, hmk, g10, g5, g6, g1, hw])
  have tl := intsL_len (idf n) 144
  have tt : List.take 144 (intsL (idf n) 144) = intsL (idf n) 144 := List.take_of_length_le (by rw [tl]; omega)
  have hs := hshuf (idf n) (N + 2) ((N + 1, .cells false (intsL (idf n) 144)) :: (N, .cells false s.cs) :: bs) ((hM.push _).push _)
  have st := ST38 (H := ⟨N + 5, (N + 1, .cells false (intsL (idf n) 144)) :: (N, .cells false s.cs) :: bs⟩) (i := N + 1) (f0 := idf n) (by simp [lookB]) (shF (n - 1) (idf n) x).1
  have hM5 : ∀ p ∈ (N + 1, ABlk.cells false (intsL (shF (n - 1) (idf n) x).1 144)) :: (N, .cells false s.cs) :: bs, p.1 < N + 5 := fun p hp => by
    have h2 : p.1 < N + 2 := ((hM.push (.cells false s.cs)).push (.cells false (intsL (shF (n - 1) (idf n) x).1 144))).2 p hp
    omega
  have hc := hcop (N + 5) (N + 1) ((N + 1, .cells false (intsL (shF (n - 1) (idf n) x).1 144)) :: (N, .cells false s.cs) :: bs) (shF (n - 1) (idf n) x).1 hM5 (by simp [lookB])
  have sl := SA38 (H := ⟨N + 5, (N + 1, .cells false (intsL (shF (n - 1) (idf n) x).1 144)) :: (N, .cells false s.cs) :: bs⟩) (i := N + 1) (n := n) (ro := false) (by simp [lookB]) (intsL_len (shF (n - 1) (idf n) x).1 144) hn
  have hbl := below_all N bs hM.2
  have q0 : ¬ N + 1 < N := by omega
  simp only [wallF]
  generalize (shF (n - 1) (idf n) x).1 = W at *
  simp [ec_skip, ec_label, ek_reg, ek_draw, ek_seq, ec_cond, ek_block, ec_loop, ec_exit, ec_ret, ec_scope, ek_nil, ek_op, opK_some, regK_some, seqK_normal, seqK_exit, seqK_ret, blockK_normal, blockK_exit, blockK_ret, evOp, vOp, hOpB, hOpU, hOp, hOpT, aAppendG_tab, aWanted, aYielded, opd, putT, closedV, aBin, intOp, sameK, mapO, joinR, hasAddr, boundOf, pushB, aAlloc, Value.cells, lookB, setB, Nat.beq_eq, tm_n_set, tm_get_set, tm_of_n, tm_of_get, tm_tr_set, tm_tr_of, cellV, putF, appR_eq, takeR_eq, dropR_eq, setR_eq, getR_eq, ↓C75, ↓C76, ↓C77, ↓C79, ↓C17, ↓C18, ↓C22, ↓C71, FA24_0, FA24_1, FA24_2, FA24_3, FA24_4, FA24_5, FA24_6, FA24_7, FA24_8, LD3, LD4, LD22, LD27, LDr, LD24, LEN22, IA22, tkc, cellAt, hl, hmk, g5, g6, g1, LD38, tl, tt, ↓Cshuf, hs, st, sl, opdO, AS38, ↓Ccopied, hc, finF, takeM, resV, cleanedG, kp, gc]
  cases n with
  | zero => simp [cpV, cpH, wallH, hasAddr, below, hbl, q0, Nat.blt_eq]
  | succ k => simp [cpV, cpH, wallH, hasAddr]




end

section
set_option linter.unusedSimpArgs false
set_option linter.unusedVariables false
noncomputable def wl (n : Nat) (W : Nat → Int) : List Int := (List.range n).map W
theorem wl_len (n W) : (wl n W).length = n := by simp [wl]
theorem intsV_wl (n : Nat) (W : Nat → Int) : intsV (wl n W) = intsL W n := by
  simp [intsV, wl, intsL]
theorem lstV_wl (b n : Nat) (W : Nat → Int) : lstV b (wl n W) = cpV b n := by
  cases n with
  | zero => rfl
  | succ n =>
    have h : wl (n + 1) W = (W 0) :: ((List.range' 1 n).map W) := by
      simp [wl, List.range_eq_range', List.range'_succ]
    rw [h]
    simp [lstV, cpV]
/-- The wall of a set's size and a seed. -/
noncomputable def wallL (s : SV) (x : Int) : List Int := wl s.rsize.toNat (wallF s.rsize.toNat x)
theorem hp_MI (s : SV) : MI s.hp := ⟨by simp [SV.hp, decrK, Nat.blt_eq], by simp [SV.hp]⟩
theorem F31n : tabF Try.prog 96 = some Try.f96 := by kernel_rfl
theorem F42n : tabF Try.prog 100 = some Try.f100 := by kernel_rfl
theorem V1_none14 (args : List Value) (H : AH) : V1 (.func (.func 81) #[] #[]) args H = none := by rfl
theorem V1_none15 (args : List Value) (H : AH) : V1 (.func (.func 73) #[] #[]) args H = none := by rfl
theorem V1_none31 (args : List Value) (H : AH) : V1 (.func (.func 96) #[] #[]) args H = none := by rfl
theorem V1_none42 (args : List Value) (H : AH) : V1 (.func (.func 100) #[] #[]) args H = none := by rfl
theorem V1_none7 (args : List Value) (H : AH) : V1 (.func (.func 39) #[] #[]) args H = none := by rfl
noncomputable def e8 : Hnd := evCall (tabT Try.prog) (tabF Try.prog) 300 kpT V1 8
noncomputable def e7 : Hnd := evCall (tabT Try.prog) (tabF Try.prog) 300 kpT V1 7
noncomputable def e6 : Hnd := evCall (tabT Try.prog) (tabF Try.prog) 300 kpT V1 6
noncomputable def e5 : Hnd := evCall (tabT Try.prog) (tabF Try.prog) 300 kpT V1 5
theorem e6_next (p N : Nat) (bs : List (Nat × ABlk)) (y : Int) (h : lookB bs p = some (wB y)) : e6 (.func (.func 100) #[] #[]) [.pointer (some ⟨p, 0, none⟩)] ⟨N, bs⟩ = some (.int .u64 (wd (stepW y)), ⟨N, setB bs p (wB (stepW y))⟩) :=
  (evCall_fn (n := 5) F42n (V1_none42 _ _)).trans (next_ev e5 p N bs y h)
theorem e7_draw (p N : Nat) (bs : List (Nat × ABlk)) (x : Int) (n : Nat) (h1 : 1 ≤ n) (h2 : n ≤ 144) (h : lookB bs p = some (wB x)) : e7 (.func (.func 96) #[] #[]) [.pointer (some ⟨p, 0, none⟩), .int .i64 (n : Int)] ⟨N, bs⟩ = some (.int .i64 (drw n x : Int), ⟨N, setB bs p (wB (nxs n x))⟩) :=
  (evCall_fn (n := 6) F31n (V1_none31 _ _)).trans (draw_ev e6 p N bs x n h1 h2 h fun bs y hy => e6_next p N bs y hy)
theorem e7_drawS (N : Nat) (bs : List (Nat × ABlk)) (f : Nat → Int) (n : Nat) (y : Int) (h1 : 1 ≤ n) (h2 : n ≤ 144) : e7 (.func (.func 96) #[] #[]) [.pointer (some ⟨N + 1, 0, none⟩), .int .i64 (n : Int)] (memS N bs f y) = some (.int .i64 (drw n y : Int), memS N bs f (nxs n y)) := by
  have := e7_draw (N + 1) (N + 3) ((N + 2, .cells false (intsL (fun _ => 0) 144)) :: (N + 1, .cells false [.int .u64 y]) :: (N, .cells false (intsL f 144)) :: bs) y n h1 h2 (by simp [lookB, wB])
  rw [memS, this]
  simp [memS, setB, Nat.beq_eq, wB]
theorem e8_shuf (n : Nat) (x : Int) (hn : n ≤ 144) (f : Nat → Int) (N : Nat) (bs : List (Nat × ABlk)) (hM : MI ⟨N, bs⟩) : e8 (.func (.func 81) #[] #[]) [.agg ⟨intsL f 144⟩, .int .i64 (n : Int), .int .u64 x] ⟨N, bs⟩ = some (.agg ⟨intsL (shF (n - 1) f x).1 144⟩, ⟨N + 3, bs⟩) :=
  (evCall_fn (n := 7) F14n (V1_none14 _ _)).trans (shuffled_ev e7 N bs f n x hn hM.1 hM.2 fun f n y h1 h2 => e7_drawS N bs f n y h1 h2)
theorem e8_cop (n : Nat) (hn : n ≤ 144) (N b : Nat) (bs : List (Nat × ABlk)) (f : Nat → Int) (hb : ∀ p ∈ bs, p.1 < N) (h : lookB bs b = some (.cells false (intsL f 144))) : e8 (.func (.func 73) #[] #[]) [.slice (some ⟨b, 0, none⟩) n 1] ⟨N, bs⟩ = some (cpV N n, cpH N bs f n) :=
  (evCall_fn (n := 7) F15n (V1_none15 _ _)).trans (copied_ev e7 N b n bs f hn hb h)
noncomputable def ansWall : SV → List Value → Option (List Int)
  | s, [.int .u64 x] => some (wallL s x)
  | _, _ => none
theorem setWall_ok : CallOK Try.prog (setLH 39 ansWall) := setLH_ok (runH_ok V1_ok) fun s rest l _ _ hv => by
  unfold ansWall at hv
  split at hv
  · rename_i x
    cases hv
    have hb := rsize_bounds s
    obtain ⟨n, hn⟩ : ∃ n : Nat, s.rsize = (n : Int) := ⟨s.rsize.toNat, by omega⟩
    have hn2 : n ≤ 144 := by omega
    have hw : wallL s x = wl n (wallF n x) := by
      unfold wallL; rw [hn]; rfl
    have h := wall_ev e8 s x n 2 [(1, .ints s.h), (0, .ints s.g)] hn2 hn (hp_MI s) rfl rfl (by omega) (fun H h0 h1 => inH_hd (V1_13 s H h0 h1)) (fun f N bs hM => e8_shuf n x hn2 f N bs hM) (fun N b bs f hb h => e8_cop n hn2 N b bs f hb h)
    refine ⟨7, _, by rw [hw, lstV_wl]; exact runH_fn F7n (V1_none7 _ _) h, fun hne => ?_⟩
    rw [hw, intsV_wl]
    rw [hw] at hne
    cases n with
    | zero => exact absurd rfl hne
    | succ n => simp [wallH, lookB]
  · cases hv



end

section
set_option linter.unusedSimpArgs false
set_option linter.unusedVariables false

end

section
set_option linter.unusedSimpArgs false
set_option linter.unusedVariables false

/-- How many of the first n numbers have a property. -/
def cntP (p : Int → Bool) (f : Nat → Int) : Nat → Nat
  | 0 => 0
  | i + 1 => cntP p f i + (if p (f i) then 1 else 0)
theorem cntP_ext {p : Int → Bool} {f g : Nat → Int} : ∀ n, (∀ i, i < n → p (f i) = p (g i)) → cntP p f n = cntP p g n
  | 0, _ => rfl
  | n + 1, h => by
    simp only [cntP]
    rw [cntP_ext n (fun i hi => h i (by omega)), h n (by omega)]
theorem cntP_upd {p : Int → Bool} {f : Nat → Int} {j : Nat} {v : Int} : ∀ n, j < n → cntP p (fun k => if k = j then v else f k) n + (if p (f j) then 1 else 0) = cntP p f n + (if p v then 1 else 0)
  | 0, h => by omega
  | n + 1, h => by
    simp only [cntP]
    by_cases e : n = j
    · subst e
      have : cntP p (fun k => if k = n then v else f k) n = cntP p f n := cntP_ext n fun i hi => by
        have : ¬ i = n := by omega
        simp [this]
      rw [this]
      simp only [if_true]
      omega
    · have := cntP_upd (p := p) (f := f) (j := j) (v := v) n (by omega)
      simp only [e, if_false]
      omega
theorem cntP_swap {p : Int → Bool} {f : Nat → Int} {i j : Nat} {n : Nat} (hi : i < n) (hj : j < n) : cntP p (fun k => if k = j then f i else if k = i then f j else f k) n = cntP p f n := by
  have h1 := cntP_upd (p := p) (f := f) (v := f j) n hi
  have h2 := cntP_upd (p := p) (f := fun k => if k = i then f j else f k) (v := f i) n hj
  try dsimp only at h2
  by_cases e : j = i
  · subst e
    simp only [if_true] at h2
    omega
  · simp only [e, if_false] at h2
    omega
theorem cntP_split {p : Int → Bool} {f : Nat → Int} (a : Nat) : ∀ b, cntP p f (a + b) = cntP p f a + cntP p (fun i => f (a + i)) b
  | 0 => rfl
  | b + 1 => by
    rw [← Nat.add_assoc]
    simp only [cntP]
    rw [cntP_split a b]
    omega
theorem cntP_pos {p : Int → Bool} {f : Nat → Int} : ∀ n i, i < n → p (f i) = true → 1 ≤ cntP p f n
  | 0, i, h, _ => by omega
  | n + 1, i, h, hp => by
    simp only [cntP]
    by_cases e : i = n
    · subst e; rw [if_pos hp]; omega
    · have := cntP_pos n i (by omega) hp
      omega
theorem cntP_two {p : Int → Bool} {f : Nat → Int} : ∀ n i j, i < j → j < n → p (f i) = true → p (f j) = true → 2 ≤ cntP p f n
  | 0, i, j, _, h, _, _ => by omega
  | n + 1, i, j, hij, h, hi, hj => by
    simp only [cntP]
    by_cases e : j = n
    · subst e; rw [if_pos hj]
      have := cntP_pos j i hij hi
      omega
    · have := cntP_two n i j hij (by omega) hi hj
      omega
/-- The numbers 0, 1, 2, .. -/
def idz : Nat → Int := fun i => (i : Int)
theorem cntP_between (lo hi : Int) (h0 : 0 ≤ lo) (hl : lo ≤ hi) : ∀ n : Nat, (cntP (fun x => decide (lo ≤ x) && decide (x < hi)) idz n : Int) = (if hi ≤ n then hi else if lo ≤ n then (n : Int) else lo) - lo
  | 0 => by
    simp only [cntP]
    split
    · omega
    · split <;> omega
  | n + 1 => by
    simp only [cntP, Int.natCast_add]
    rw [cntP_between lo hi h0 hl n]
    by_cases c1 : lo ≤ (n : Int)
    · by_cases c2 : (n : Int) < hi
      · simp only [idz, c1, c2, decide_true, Bool.and_self, if_true]
        split <;> split <;> (try split) <;> (try split) <;> omega
      · simp only [idz, c1, c2, decide_true, decide_false, Bool.and_false, Bool.false_eq_true, if_false]
        split <;> split <;> (try split) <;> (try split) <;> omega
    · simp only [idz, c1, decide_false, Bool.false_and, Bool.false_eq_true, if_false]
      split <;> split <;> (try split) <;> (try split) <;> omega
/-- A list has each of the numbers below n once. -/
def Perm (w : Nat → Int) (n : Nat) : Prop := ∀ p : Int → Bool, cntP p w n = cntP p idz n
theorem Perm.range {w : Nat → Int} {n : Nat} (h : Perm w n) {i : Nat} (hi : i < n) : 0 ≤ w i ∧ w i < n := by
  have h1 := h (fun x => !(decide (0 ≤ x) && decide (x < (n : Int))))
  have h2 : cntP (fun x => !(decide (0 ≤ x) && decide (x < (n : Int)))) idz n = 0 := by
    have key : ∀ m : Nat, m ≤ n → cntP (fun x => !(decide (0 ≤ x) && decide (x < (n : Int)))) idz m = 0 := by
      intro m
      induction m with
      | zero => intro _; rfl
      | succ m ih =>
        intro hm
        simp only [cntP]
        rw [ih (by omega)]
        have c1 : (0 : Int) ≤ idz m := by unfold idz; omega
        have c2 : idz m < (n : Int) := by unfold idz; omega
        simp [c1, c2]
    exact key n (Nat.le_refl _)
  rw [h2] at h1
  by_cases c : 0 ≤ w i ∧ w i < n
  · exact c
  · have := cntP_pos (p := fun x => !(decide (0 ≤ x) && decide (x < (n : Int)))) (f := w) n i hi (by
      simp only [Bool.not_eq_true', Bool.and_eq_false_iff, decide_eq_false_iff_not]
      omega)
    omega
theorem Perm.inj {w : Nat → Int} {n : Nat} (h : Perm w n) {i j : Nat} (hij : i < j) (hj : j < n) : w i ≠ w j := by
  intro e
  obtain ⟨r1, r2⟩ := h.range hj
  have h1 := h (fun x => decide (w j ≤ x) && decide (x < w j + 1))
  have h2 := cntP_between (w j) (w j + 1) r1 (by omega) n
  have h3 := cntP_two (p := fun x => decide (w j ≤ x) && decide (x < w j + 1)) (f := w) n i j hij hj (by simp only [Bool.and_eq_true, decide_eq_true_eq]; omega) (by simp only [Bool.and_eq_true, decide_eq_true_eq]; omega)
  rw [if_pos (by omega)] at h2
  omega

theorem cntP_shF (p : Int → Bool) (n : Nat) : ∀ (m : Nat) (f : Nat → Int) (x : Int), m < n → cntP p (shF m f x).1 n = cntP p f n
  | 0, f, x, _ => rfl
  | m + 1, f, x, h => by
    rw [shF, cntP_shF p n m _ _ (by omega)]
    have hd : drw (m + 2) x < m + 2 := Nat.mod_lt _ (by omega)
    exact cntP_swap (p := p) (f := f) (i := m + 1) (j := drw (m + 2) x) h (by omega)
theorem perm_wall {n : Nat} (h : 1 ≤ n) (x : Int) : Perm (wallF n x) n := by
  intro p
  unfold wallF
  rw [cntP_shF p n (n - 1) _ _ (by omega)]
  exact cntP_ext n fun i hi => by simp [idf, idz, hi]
theorem inB_of {s : SV} (he : s.err = 0) {x : Int} (h0 : 0 ≤ x) (h1 : x < s.size) : s.inB x = true := by
  have hr : s.rsize = s.size := by unfold SV.rsize; rw [if_pos he]
  unfold SV.inB
  rw [Bool.and_eq_true, hr]
  exact ⟨decide_eq_true h0, decide_eq_true h1⟩
theorem rsize_of {s : SV} (he : s.err = 0) : s.rsize = s.size := by unfold SV.rsize; rw [if_pos he]
end

section
set_option linter.unusedSimpArgs false
set_option linter.unusedVariables false

noncomputable def setTCH (f : FuncId) (ans : SV → (Nat → Int) → Nat → List Value → Option Value) : Value → List Value → AH → Option (Value × AH) := fun fv args H =>
  match fv, args with
  | .func (.func f') ⟨[]⟩ ⟨[]⟩, v :: u :: rest =>
    if Nat.beq f' f && rest.all (closedV 3) then
      match seeC v H.bs, seeT H.bs u with
      | some s, some (n, t) => if Nat.ble n 200 then
          match ans s t n rest with
          | some r => some (r, H)
          | none => none
        else none
      | _, _ => none
    else none
  | _, _ => none
theorem setTCH_ok {P : Program} {call0 : Value → List Value → AH → Option (Value × AH)} (hC : CallOK P call0) {f : FuncId} {ans : SV → (Nat → Int) → Nat → List Value → Option Value}
    (ha : ∀ s t n rest r, s.n ≤ 200 → s.k ≤ 200 → n ≤ 200 → ans s t n rest = some r → closedV 5 r = true ∧ ∃ H', call0 (.func (.func f) #[] #[]) (s.val :: sl2 n :: rest) (hpT s t) = some (r, H')) : CallOK P (setTCH f ans) := by
  intro fv args H vf Hf h
  unfold setTCH at h
  split at h
  · rename_i f' v0 u0 rest
    split at h
    · rename_i hf
      simp only [Bool.and_eq_true] at hf
      obtain ⟨hf, hrest⟩ := hf
      split at h
      · rename_i s n t hs ht
        split at h
        · rename_i hn
          rw [Nat.ble_eq] at hn
          split at h
          · rename_i r hans
            cases h
            have hff : f' = f := Nat.eq_of_beq_eq_true hf
            subst hff
            refine ⟨Nat.le_refl _, fun B ρ w fv' args' hfv hargs hH _ => ?_⟩
            obtain ⟨hsn, hsk, ρ2, hca, hrel, hno⟩ := setpart_rel hs ht hn hrest hargs hH
            obtain ⟨hcl, H', hcall⟩ := ha _ _ _ _ _ hsn hsk hn hans
            have hfree : Free ρ2 (hpT s t).next H'.next := fun q q1 _ => hno q q1
            obtain ⟨_, sst⟩ := hC _ _ _ _ _ hcall
            obtain ⟨fn, cap, nn, fr, e0, i1, i2, i3⟩ := sst w.heap.size ρ2 w (.func (.func f') #[] #[]) args' (.func rfl (fun j v v' hv => by simp at hv)) hca hrel hfree
            cases e0
            cases hfv with
            | func hs _ =>
              have hc' := Array.eq_empty_of_size_eq_zero hs.symm
              subst hc'
              refine ⟨.func f', #[], nn, fr, rfl, i1, i2, fun cx csx => ?_⟩
              obtain ⟨ρ', w', u, st, hu, hp⟩ := i3 cx csx
              have := closedV_eq 5 _ u hcl hu
              subst this
              exact ⟨ρ, w', _, st, closedV_rel ρ 5 _ hcl, Ext.refl ρ, fun _ _ => rfl, hH.keep hp.below, hp.below.mono hH.hB⟩
          · cases h
        · cases h
      · cases h
    · cases h
  · cases h
theorem setTCH_other {f g : FuncId} {ans : SV → (Nat → Int) → Nat → List Value → Option Value} {args : List Value} {H : AH} (h : Nat.beq g f = false) : setTCH f ans (.func (.func g) #[] #[]) args H = none := by
  unfold setTCH
  split
  · rename_i h1
    cases h1
    simp [h]
  · rfl
theorem setTCH_go {f : FuncId} {ans : SV → (Nat → Int) → Nat → List Value → Option Value} {H : AH} {s : SV} {v u r : Value} {n : Nat} {t : Nat → Int} {rest : List Value} (h1 : seeC v H.bs = some s) (h2 : seeT H.bs u = some (n, t)) (hn : n ≤ 200) (hr : rest.all (closedV 3) = true) (ha : ans s t n rest = some r) : setTCH f ans (.func (.func f) #[] #[]) (v :: u :: rest) H = some (r, H) := by
  show (if Nat.beq f f && rest.all (closedV 3) then match seeC v H.bs, seeT H.bs u with
      | some s, some (n, t) => if Nat.ble n 200 then match ans s t n rest with
          | some r => some (r, H)
          | none => none
        else none
      | _, _ => none
    else none) = _
  rw [h1, h2, hr]
  simp only [Nat.beq_refl, Bool.and_self, if_true, ha, show Nat.ble n 200 = true by rw [Nat.ble_eq]; exact hn]
noncomputable def ansCd (s : SV) (t : Nat → Int) (n : Nat) : List Value → Option Value
  | [.int .i64 cut, .int .i64 dealer] => some (.int .i64 (s.cd t n cut dealer))
  | _ => none
theorem setCd_ok : CallOK Try.prog (setTCH 72 ansCd) := setTCH_ok (runH_ok R3_ok) fun s t n rest r _ _ hn hv => by
  unfold ansCd at hv
  split at hv
  · rename_i cut dealer
    cases hv
    obtain ⟨H', h⟩ := cd_ev (inH R3) s t n cut dealer hn (fun H a b => inH_hd (orH_r (canH_other rfl) (orH_r (canH_other rfl) (R2_check s H a b)))) (fun H a b => inH_hd (orH_r (canH_other rfl) (orH_r (canH_other rfl) (R2_size s H a b))))
      (fun n l m H => inH_hd (orH_r (canH_other rfl) (orH_r (canH_other rfl) (R2_btw n l m H)))) (fun H h0 h1 h2 => inH_hd (R3_ct s t n H h0 h1 h2))
    exact ⟨rfl, H', runH_fn FCD rfl h⟩
  · cases hv
noncomputable def ansFull : SV → List Value → Option Value
  | s, [] => some (.int .i64 s.full)
  | _, _ => none
theorem setFull_ok : CallOK Try.prog (setH 74 ansFull) := setH_ok (runH_ok noH_ok) fun s rest v _ _ hv => by
  unfold ansFull at hv
  split at hv
  · cases hv
    obtain ⟨H', h⟩ := full_ev (inH noH) s
    exact ⟨rfl, H', runH_fn F77 rfl h⟩
  · cases hv
theorem FCop : tabF Try.prog 73 = some Try.f73 := by kernel_rfl
theorem kpCop : (kpT 73, gcT 73) = (false, false) := by kernel_rfl
theorem ints_part (g : Nat → Int) (n off m : Nat) (h : off + m ≤ n) : takeCells (intsL g n) off m = some (intsL (fun j => g (off + j)) m) := by
  unfold takeCells
  rw [takeK_eq, dropR_eq, if_pos (by rw [List.length_drop, intsL_len]; omega)]
  congr 1
  apply List.ext_getElem?
  intro k
  rw [List.getElem?_take]
  split
  · rename_i hk
    rw [List.getElem?_drop, intsL_at g n (off + k) (by omega), intsL_at _ m k hk]
  · rename_i hk
    rw [List.getElem?_eq_none (by rw [intsL_len]; omega)]
theorem ints_cellV (g : Nat → Int) (n : Nat) : (intsL g n).all cellV = true := by
  simp only [List.all_eq_true, intsL, List.mem_map]
  rintro v ⟨j, _, rfl⟩
  rfl
/-- A list of numbers that is told by a function, in one new block. -/
noncomputable def newV (N m : Nat) : Value := if m = 0 then .slice none 0 0 else .slice (some ⟨N, 0, none⟩) m 1
noncomputable def newM (N : Nat) (bs : List (Nat × ABlk)) (g : Nat → Int) (m : Nat) : AH := if m = 0 then ⟨N, bs⟩ else ⟨N + 1, (N, .cells false (intsL g m)) :: bs⟩
set_option maxRecDepth 10000 in
set_option maxHeartbeats 8000000 in
theorem copied_ev2 {L : Nat} (call : Value → List Value → AH → Option (Value × AH)) (N : Nat) (bs : List (Nat × ABlk)) (a off m n : Nat) (ro : Bool) (g : Nat → Int) (hm : off + m ≤ n) (hn : n ≤ 200) (h : lookB bs a = some (.cells ro (intsL g n))) :
    evFn (tabT Try.prog) call (L + 300) kpT 73 Try.f73 [.slice (some ⟨a, off, none⟩) m 1] ⟨N, bs⟩ = some (newV N m, newM N bs (fun j => g (off + j)) m) ∨ m = 0 := by
  by_cases h0 : m = 0
  · exact .inr h0
  refine .inl ?_
  have kp := kpCop
  simp only [Prod.mk.injEq] at kp
  obtain ⟨kp1, kp2⟩ := kp
  obtain ⟨m, rfl⟩ : ∃ k, m = k + 1 := ⟨m - 1, by omega⟩
  have tk := ints_part g n off (m + 1) hm
  have cl := ints_cellV (fun j => g (off + j)) (m + 1)
  have c1 : (m + 1) * 8 ≤ 1000000000000 := by omega
  have c2 : m ≤ 999999999999 := by omega
  simp only [newV, newM, Nat.succ_ne_zero, if_false]
  generalize intsL (fun j => g (off + j)) (m + 1) = X at *
  have src : srcCells bs (.slice (some ⟨a, off, none⟩) (m + 1) 1) 1 = some X := by simp [srcCells, h, tk]
  have c3 : m + 1 ≤ 1000000000000 := by omega
  simp only [evFn, Try.f73]
  simp [ec_skip, ec_label, ek_reg, ek_draw, ek_seq, ec_cond, ek_block, ec_loop, ec_exit, ec_ret, ec_scope, ek_nil, ek_op, opK_some, regK_some, seqK_normal, seqK_exit, seqK_ret, blockK_normal, blockK_exit, blockK_ret, evOp, vOp, hOpB, hOpU, hOp, hOpT, aAppendG_tab, aWanted, aYielded, opd, putT, closedV, aBin, intOp, sameK, mapO, joinR, hasAddr, boundOf, pushB, aAlloc, Value.cells, lookB, setB, Nat.beq_eq, tm_n_set, tm_get_set, tm_of_n, tm_of_get, tm_tr_set, tm_tr_of, cellV, putF, appR_eq, takeR_eq, dropR_eq, setR_eq, getR_eq, ↓C75, ↓C76, ↓C77, ↓C79, ↓C17, ↓C18, ↓C22, ↓C71, FA24_0, FA24_1, FA24_2, FA24_3, FA24_4, FA24_5, FA24_6, FA24_7, FA24_8, LD3, LD4, LD22, LD27, LDr, LD24, LEN22, IA22, tkc, cellAt, AP22, APT22, sliceLen, src, dstCells, cl, c1, c2, c3, Nat.ble_eq, finF, takeM, resV, cleanedG, hasAddr, kp1, kp2]
set_option maxRecDepth 10000 in
set_option maxHeartbeats 8000000 in
theorem copied_ev0 {L : Nat} (call : Value → List Value → AH → Option (Value × AH)) (N : Nat) (bs : List (Nat × ABlk)) (hb : ∀ p ∈ bs, p.1 < N) (a : Option Addr) (z : Nat) :
    evFn (tabT Try.prog) call (L + 300) kpT 73 Try.f73 [.slice a 0 z] ⟨N, bs⟩ = some (.slice none 0 0, ⟨N, bs⟩) := by
  have kp := kpCop
  simp only [Prod.mk.injEq] at kp
  obtain ⟨kp1, kp2⟩ := kp
  have hbl := below_all N bs hb
  simp only [evFn, Try.f73]
  simp [ec_skip, ec_label, ek_reg, ek_draw, ek_seq, ec_cond, ek_block, ec_loop, ec_exit, ec_ret, ec_scope, ek_nil, ek_op, opK_some, regK_some, seqK_normal, seqK_exit, seqK_ret, blockK_normal, blockK_exit, blockK_ret, evOp, vOp, hOpB, hOpU, hOp, hOpT, aAppendG_tab, aWanted, aYielded, opd, putT, closedV, aBin, intOp, sameK, mapO, joinR, hasAddr, boundOf, pushB, aAlloc, Value.cells, lookB, setB, Nat.beq_eq, tm_n_set, tm_get_set, tm_of_n, tm_of_get, tm_tr_set, tm_tr_of, cellV, putF, appR_eq, takeR_eq, dropR_eq, setR_eq, getR_eq, ↓C75, ↓C76, ↓C77, ↓C79, ↓C17, ↓C18, ↓C22, ↓C71, FA24_0, FA24_1, FA24_2, FA24_3, FA24_4, FA24_5, FA24_6, FA24_7, FA24_8, LD3, LD4, LD22, LD27, LDr, LD24, LEN22, IA22, tkc, cellAt, AP22, APT22, sliceLen, srcCells, dstCells, Nat.ble_eq, finF, takeM, resV, cleanedG, hasAddr, kp1, kp2, hbl]


end

section
set_option linter.unusedSimpArgs false
set_option linter.unusedVariables false

end

section
set_option linter.unusedSimpArgs false
set_option linter.unusedVariables false

theorem kpl : kpT 78 = false := by kernel_rfl
theorem gcl : gcT 78 = false := by kernel_rfl
theorem Nplain : ((tabT Try.prog) 24).map (fun z => (z.ex.nat 43, z.ex.mnz 43)) = some (none, none) := by kernel_rfl
theorem Cplain (call : Value → List Value → AH → Option (Value × AH)) {tm : Tm} {i : Nat} {H : AH} {d : Option Tmp} {t : TypeId} {p : String} {a : Array Edge} {gd : Option (Nat × Bool)} : evOp (tabT Try.prog) call ⟨d, .call ⟨.value (.func 43), #[.tmp i], #[24]⟩, t, p, a, gd⟩ (opd tm) H = call (.func (.func 43) #[] #[]) [tm.get i] H :=
  evOp_evO.trans (eo_call1 rfl rfl Nplain)
theorem AL24 {call : Value → List Value → AH → Option (Value × AH)} {g : Operand → Option Value} {H : AH} {d : Option Tmp} {t : TypeId} {p : String} {a : Array Edge} {gd : Option (Nat × Bool)} : evOp (tabT Try.prog) call ⟨d, .alloc 24, t, p, a, gd⟩ g H = some (.pointer (some ⟨H.next, 0, none⟩), ⟨H.next + 1, (H.next, .cells false [.int .i64 0, .slice none 0 0, .int .i64 0, .int .i64 0, .int .i64 0, .int .i64 0, .int .i64 0, .int .i64 0, .slice none 0 0]) :: H.bs⟩) :=
  evOp_evO.trans (eo_alloc (cs := [.int .i64 0, .slice none 0 0, .int .i64 0, .int .i64 0, .int .i64 0, .int .i64 0, .int .i64 0, .int .i64 0, .slice none 0 0]) (by kernel_rfl))
theorem ST24 (H : AH) (i off : Nat) (v : Value) : aStore (tabT Try.prog) H 24 (.pointer (some ⟨i, off, none⟩)) v = match lookB H.bs i with
    | some (.cells false cs) => if Nat.beq v.cells.toList.length 9 && Nat.ble (off + v.cells.toList.length) cs.length && v.cells.toList.all cellV then some { H with bs := setB H.bs i (.cells false (putF cs off v.cells.toList)) } else none
    | _ => none := sti (by kernel_rfl) H i off v
theorem ST22 (H : AH) (i off : Nat) (v : Value) : aStore (tabT Try.prog) H 22 (.pointer (some ⟨i, off, none⟩)) v = match lookB H.bs i with
    | some (.cells false cs) => if Nat.beq v.cells.toList.length 1 && Nat.ble (off + v.cells.toList.length) cs.length && v.cells.toList.all cellV then some { H with bs := setB H.bs i (.cells false (putF cs off v.cells.toList)) } else none
    | _ => none := sti (by kernel_rfl) H i off v
theorem STi (H : AH) (i off : Nat) (v : Value) : aStore (tabT Try.prog) H 3 (.pointer (some ⟨i, off, none⟩)) v = match lookB H.bs i with
    | some (.cells false cs) => if Nat.beq v.cells.toList.length 1 && Nat.ble (off + v.cells.toList.length) cs.length && v.cells.toList.all cellV then some { H with bs := setB H.bs i (.cells false (putF cs off v.cells.toList)) } else none
    | _ => none := sti (by kernel_rfl) H i off v
theorem BD24 (m c w d f de : Int) : aBuild (tabT Try.prog) 24 [(0, .int .i64 3), (6, .int .i64 m), (5, .int .i64 c), (2, .int .i64 w), (3, .int .i64 d), (4, .int .i64 f), (7, .int .i64 de)] = some (.agg #[.int .i64 3, .slice none 0 0, .int .i64 w, .int .i64 d, .int .i64 f, .int .i64 c, .int .i64 m, .int .i64 de, .slice none 0 0]) := by kernel_rfl
theorem Gran (call : Value → List Value → AH → Option (Value × AH)) {tm : Tm} {rs : List DR} {ts : List Nat} {k : Nat} {x y : Int} {H : AH} {d : Option Tmp} {t : TypeId} {p : String} {a : Array Edge} {gd : Option (Nat × Bool)} (h : natMem ts k = true) : evOp (tabT Try.prog) call ⟨d, .call ⟨.value (.func 79), #[.tmp k, .const (.int .i64 x), .const (.int .i64 y)], #[50, 3, 3]⟩, t, p, a, gd⟩ (gOf tm rs ts) H = call (.func (.func 79) #[] #[]) [(finT tm rs).get k, .int .i64 x, .int .i64 y] H :=
  evOp_evO.trans (eo_call3 rfl (by simp only [gOf, h, if_true]) rfl rfl)
theorem Cran (call : Value → List Value → AH → Option (Value × AH)) {tm : Tm} {k : Nat} {x y : Int} {H : AH} {d : Option Tmp} {t : TypeId} {p : String} {a : Array Edge} {gd : Option (Nat × Bool)} : evOp (tabT Try.prog) call ⟨d, .call ⟨.value (.func 79), #[.tmp k, .const (.int .i64 x), .const (.int .i64 y)], #[50, 3, 3]⟩, t, p, a, gd⟩ (opd tm) H = call (.func (.func 79) #[] #[]) [tm.get k, .int .i64 x, .int .i64 y] H :=
  evOp_evO.trans (eo_call3 rfl rfl rfl rfl)
theorem Wran : wrT 79 = true := by kernel_rfl
theorem app_ro1 {nx : Nat} {b1 : List (Nat × ABlk)} (hM : MI ⟨nx, b1⟩) (v : Value) : aAppend (tabT Try.prog) ⟨nx + 1, roB b1⟩ 22 v (.slice (some ⟨nx, 0, none⟩) 1 1) = none := by
  have h := look_none b1 nx hM.2
  rw [AP22]
  simp only [sliceLen, srcCells, h]
  split <;> simp_all
/-- What calls of the source answer. -/
structure SrcOK (call : Value → List Value → AH → Option (Value × AH)) (p : Nat) : Prop where
  bel : ∀ (N : Nat) (bs : List (Nat × ABlk)) (x : Int) (n : Nat), 1 ≤ n → n ≤ 1000 → MI ⟨N, bs⟩ → lookB bs p = some (sB x) → call (.func (.func 95) #[] #[]) [.pointer (some ⟨p, 0, none⟩), .int .i64 (n : Int)] ⟨N, bs⟩ = some (.int .i64 (belV x n), ⟨N, setB bs p (sB (stB x))⟩)
  ran : ∀ (N : Nat) (bs : List (Nat × ABlk)) (x : Int) (lo hi : Nat), lo ≤ hi → hi ≤ 900 → MI ⟨N, bs⟩ → lookB bs p = some (sB x) → call (.func (.func 79) #[] #[]) [.pointer (some ⟨p, 0, none⟩), .int .i64 (lo : Int), .int .i64 (hi : Int)] ⟨N, bs⟩ = some (.int .i64 (rngV x lo hi), ⟨N, setB bs p (sB (stB x))⟩)
  odd : ∀ (N : Nat) (bs : List (Nat × ABlk)) (x : Int) (n : Nat), 1 ≤ n → n ≤ 1000 → MI ⟨N, bs⟩ → lookB bs p = some (sB x) → call (.func (.func 77) #[] #[]) [.pointer (some ⟨p, 0, none⟩), .int .i64 (n : Int)] ⟨N, bs⟩ = some (.bool (oddV x n), ⟨N, setB bs p (sB (stB x))⟩)
noncomputable def bx (k : Nat) (x : Int) : Int := match k with | 0 => x | k + 1 => bx k (stB x)
theorem eqFL {lo n : Nat} {H : AH} {u : Value} {g : Nat → Int} (h : FL lo H u n g) : eqR 5 u u = true := by
  rcases h with ⟨rfl, rfl⟩ | ⟨a, cs, rfl, _⟩
  · rfl
  · simp [eqR]
/-- A small set while it is made. -/
structure LB (me : Int) (s : SV) : Prop where
  p : s.p = 3
  m : s.m = me
  c : 2 ≤ s.c ∧ s.c ≤ 4
  w : 0 ≤ s.w ∧ s.w ≤ 4
  d : 0 ≤ s.d ∧ s.d ≤ 3
  f : 0 ≤ s.f ∧ s.f ≤ 1
  de : 0 ≤ s.de ∧ s.de ≤ 2
  g : ∀ i, i < s.n → 3 ≤ s.g i ∧ s.g i ≤ 5
  n : s.n ≤ 2
/-- The temporaries that stay. -/
def TL (N p : Nat) (me : Int) (A : AF) : Prop := A.tm.n = 98 ∧ A.marks = [] ∧ A.tm.get 0 = .pointer (some ⟨p, 0, none⟩) ∧ A.tm.get 1 = .int .i64 me ∧ A.tm.get 4 = .pointer (some ⟨N, 0, none⟩) ∧ A.tm.get 5 = .pointer (some ⟨N + 1, 0, none⟩)
def IL1 (N p : Nat) (me : Int) (bs : List (Nat × ABlk)) (k : Nat) (m : Nat) (A : AF) (H : AH) : Prop := ∃ (s : SV) (x : Int) (u1 : Value), KL N p bs H x s u1 (.slice none 0 0) ∧ LB me s ∧ s.k = 0 ∧ s.n + m = k ∧ TL N p me A ∧ A.tm.get 6 = .int .i64 (m : Int)
def QL1 (N p : Nat) (me : Int) (bs : List (Nat × ABlk)) (k : Nat) (y : AX) (A : AF) (H : AH) : Prop := y = .exit 0 ∧ ∃ (s : SV) (x : Int) (u1 : Value), KL N p bs H x s u1 (.slice none 0 0) ∧ LB me s ∧ s.k = 0 ∧ s.n = k ∧ TL N p me A
noncomputable def PV (s : SV) : Int := wrapI .i64 (wrapI .i64 (sumG s.g s.n 0 0 + s.w) + s.d)
theorem PV_bd {me : Int} {s : SV} (hB : LB me s) (h1 : 1 ≤ s.n) : ∃ S : Int, PV s = S + s.w + s.d ∧ 3 * s.n ≤ S ∧ S ≤ 5 * s.n := by
  have hn := hB.n
  have g0 := hB.g 0 (by omega)
  have hw := hB.w
  have hd := hB.d
  rcases (show s.n = 1 ∨ s.n = 2 by omega) with h | h
  · refine ⟨s.g 0, ?_, by omega, by omega⟩
    unfold PV
    rw [h]
    simp only [sumG]
    have a1 : wrapI .i64 (0 + s.g 0) = s.g 0 := (wrapI_small (by omega) (by omega)).trans (by omega)
    have a2 : wrapI .i64 (s.g 0 + s.w) = s.g 0 + s.w := wrapI_small (by omega) (by omega)
    have a3 : wrapI .i64 (s.g 0 + s.w + s.d) = s.g 0 + s.w + s.d := wrapI_small (by omega) (by omega)
    rw [a1, a2, a3]
  · have g1 := hB.g 1 (by omega)
    refine ⟨s.g 0 + s.g 1, ?_, by omega, by omega⟩
    unfold PV
    rw [h]
    simp only [sumG]
    have a1 : wrapI .i64 (0 + s.g 0) = s.g 0 := (wrapI_small (by omega) (by omega)).trans (by omega)
    have a4 : wrapI .i64 (s.g 0 + s.g (0 + 1)) = s.g 0 + s.g 1 := (wrapI_small (by simp only [Nat.zero_add]; omega) (by simp only [Nat.zero_add]; omega)).trans (by simp)
    have a2 : wrapI .i64 (s.g 0 + s.g 1 + s.w) = s.g 0 + s.g 1 + s.w := wrapI_small (by omega) (by omega)
    have a3 : wrapI .i64 (s.g 0 + s.g 1 + s.w + s.d) = s.g 0 + s.g 1 + s.w + s.d := wrapI_small (by omega) (by omega)
    rw [a1, a4, a2, a3]
theorem Gpl (call : Value → List Value → AH → Option (Value × AH)) {tm : Tm} {rs : List DR} {ts : List Nat} {k : Nat} {H : AH} {d : Option Tmp} {t : TypeId} {p : String} {a : Array Edge} {gd : Option (Nat × Bool)} (h : natMem ts k = true) : evOp (tabT Try.prog) call ⟨d, .call ⟨.value (.func 43), #[.tmp k], #[24]⟩, t, p, a, gd⟩ (gOf tm rs ts) H = call (.func (.func 43) #[] #[]) [(finT tm rs).get k] H :=
  evOp_evO.trans (eo_call1 rfl (by simp only [gOf, h, if_true]) Nplain)
theorem Wpl : wrT 43 = false := by kernel_rfl
def IL2 (N p : Nat) (me : Int) (bs : List (Nat × ABlk)) (k : Nat) (NV : Int) (m : Nat) (A : AF) (H : AH) : Prop := ∃ (s : SV) (x : Int) (u1 : Value), KL N p bs H x s u1 (.slice none 0 0) ∧ LB me s ∧ s.k = 0 ∧ s.n = k ∧ NV = 3 * (3 * me + 1) + 1 + s.de ∧ (4 - s.c) + (4 - s.w) + (3 - s.d) = (m : Int) ∧ TL N p me A ∧ A.tm.get 7 = .int .i64 NV
def QL2 (N p : Nat) (me : Int) (bs : List (Nat × ABlk)) (k : Nat) (NV : Int) (y : AX) (A : AF) (H : AH) : Prop := y = .exit 2 ∧ ∃ (s : SV) (x : Int) (u1 : Value), KL N p bs H x s u1 (.slice none 0 0) ∧ LB me s ∧ s.k = 0 ∧ s.n = k ∧ NV = 3 * (3 * me + 1) + 1 + s.de ∧ NV ≤ PV s * s.c + s.f ∧ TL N p me A
theorem Godd (call : Value → List Value → AH → Option (Value × AH)) {tm : Tm} {k : Nat} {y : Int} {H : AH} {d : Option Tmp} {t : TypeId} {p : String} {a : Array Edge} {gd : Option (Nat × Bool)} : evOp (tabT Try.prog) call ⟨d, .call ⟨.value (.func 77), #[.tmp k, .const (.int .i64 y)], #[50, 3]⟩, t, p, a, gd⟩ (opd tm) H = call (.func (.func 77) #[] #[]) [tm.get k, .int .i64 y] H :=
  evOp_evO.trans (eo_call2n rfl rfl rfl Nodds)
/-- The reds of a small set. -/
structure RD (s : SV) (j : Nat) : Prop where
  le : s.k ≤ j
  bd : ∀ i, i < s.k → 0 ≤ s.h i ∧ s.h i < j
  up : ∀ i, i + 1 < s.k → s.h i < s.h (i + 1)
theorem RD.app {s : SV} {j : Nat} (h : RD s j) (cs : List Value) (hg : ∀ i, i < s.k → gi cs i = s.h i) (hk : gi cs s.k = (j : Int)) : RD { s with k := s.k + 1, h := gi cs } (j + 1) := by
  refine ⟨Nat.succ_le_succ h.le, fun i hi => ?_, fun i hi => ?_⟩
  · have hi' : i < s.k + 1 := hi
    show 0 ≤ gi cs i ∧ gi cs i < ((j + 1 : Nat) : Int)
    by_cases hlt : i < s.k
    · rw [hg i hlt]; have := h.bd i hlt; omega
    · obtain rfl : i = s.k := by omega
      rw [hk]; omega
  · have hi' : i + 1 < s.k + 1 := hi
    show gi cs i < gi cs (i + 1)
    by_cases hlt : i + 1 < s.k
    · rw [hg i (by omega), hg (i + 1) hlt]; exact h.up i hlt
    · obtain e : i + 1 = s.k := by omega
      rw [e, hk, hg i (by omega)]
      exact (h.bd i (by omega)).2
theorem RD.mono {s : SV} {j : Nat} (h : RD s j) : RD s (j + 1) :=
  ⟨Nat.le_succ_of_le h.le, fun i hi => by have := h.bd i hi; omega, h.up⟩
def IL3 (N p : Nat) (me : Int) (bs : List (Nat × ABlk)) (k P : Nat) (NV : Int) (m : Nat) (A : AF) (H : AH) : Prop := ∃ (s : SV) (x : Int) (u1 u8 : Value) (j : Nat), KL N p bs H x s u1 u8 ∧ LB me s ∧ RD s j ∧ s.n = k ∧ PV s = (P : Int) ∧ NV = 3 * (3 * me + 1) + 1 + s.de ∧ NV ≤ PV s * s.c + s.f ∧ j + m = P ∧ TL N p me A ∧ A.tm.get 8 = .int .i64 (j : Int)
def QL3 (N p : Nat) (me : Int) (bs : List (Nat × ABlk)) (k P : Nat) (NV : Int) (y : AX) (A : AF) (H : AH) : Prop := y = .exit 5 ∧ ∃ (s : SV) (x : Int) (u1 u8 : Value), KL N p bs H x s u1 u8 ∧ LB me s ∧ RD s P ∧ s.n = k ∧ PV s = (P : Int) ∧ NV = 3 * (3 * me + 1) + 1 + s.de ∧ NV ≤ PV s * s.c + s.f ∧ TL N p me A
/-- What a small set of the source leaves. -/
def LitEnd (N p : Nat) (me : Int) (bs : List (Nat × ABlk)) (r : Option (Value × AH)) : Prop := ∃ (s : SV) (x : Int) (u1 u8 : Value) (P : Nat) (H' : AH), r = some (.agg #[.int .i64 s.p, u1, .int .i64 s.w, .int .i64 s.d, .int .i64 s.f, .int .i64 s.c, .int .i64 s.m, .int .i64 s.de, u8], H') ∧ MI H' ∧ N ≤ H'.next ∧ lookB H'.bs p = some (sB x) ∧ (∀ j, j < N → j ≠ p → lookB H'.bs j = lookB bs j) ∧ FL N H' u1 s.n s.g ∧ FL N H' u8 s.k s.h ∧ LB me s ∧ RD s P ∧ PV s = (P : Int) ∧ 1 ≤ s.n ∧ 3 * (3 * me + 1) + 1 + s.de ≤ PV s * s.c + s.f
theorem FL.weak {lo lo' n : Nat} {H : AH} {u : Value} {g : Nat → Int} (h : FL lo H u n g) (hl : lo' ≤ lo) : FL lo' H u n g := by
  rcases h with h | ⟨a, cs, h1, h2, h3⟩
  · exact .inl h
  · exact .inr ⟨a, cs, h1, by omega, h3⟩
theorem lit_end {N p : Nat} {me : Int} {bs : List (Nat × ABlk)} {H : AH} {x : Int} {s : SV} {u1 u8 : Value} {P : Nat} (h : KL N p bs H x s u1 u8) (hB : LB me s) (hR : RD s P) (hP : PV s = (P : Int)) (hn : 1 ≤ s.n) (hle : 3 * (3 * me + 1) + 1 + s.de ≤ PV s * s.c + s.f) (v : ABlk) : LitEnd N p me bs (some (.agg #[.int .i64 s.p, u1, .int .i64 s.w, .int .i64 s.d, .int .i64 s.f, .int .i64 s.c, .int .i64 s.m, .int .i64 s.de, u8], ⟨H.next, setB H.bs N v⟩)) := by
  have hp := h.pn
  have hx := h.nx
  have e : ∀ j, j ≠ N → lookB (setB H.bs N v) j = lookB H.bs j := fun j hj => by rw [lookB_setB, if_neg hj]
  have f1 : FL (N + 1) ⟨H.next, setB H.bs N v⟩ u1 s.n s.g := h.l1.mono (Nat.le_refl _) fun a _ h2 _ => e a (by omega)
  have f8 : FL (N + 1) ⟨H.next, setB H.bs N v⟩ u8 s.k s.h := h.l8.mono (Nat.le_refl _) fun a _ h2 _ => e a (by omega)
  exact ⟨s, x, u1, u8, P, _, rfl, h.mi.set _ _, by show N ≤ H.next; omega, (e p (by omega)).trans h.src, fun j h1 h2 => (e j (by omega)).trans (h.old j h1 h2), f1.weak (by omega), f8.weak (by omega), hB, hR, hP, hn, hle⟩
set_option maxRecDepth 10000 in
set_option maxHeartbeats 8000000 in
theorem little_ev {L : Nat} (call : Value → List Value → AH → Option (Value × AH)) (p N : Nat) (bs : List (Nat × ABlk)) (x : Int) (me : Nat) (hme : me = 1 ∨ me = 2) (hM : MI ⟨N, bs⟩) (hp : lookB bs p = some (sB x)) (hS : SrcOK call p) (hPl : ∀ (M : Nat) (b2 : List (Nat × ABlk)) (s : SV) (u1 u8 : Value), MI ⟨M, b2⟩ → Lst b2 u1 s.n s.g → s.n ≤ 200 → call (.func (.func 43) #[] #[]) [.agg #[.int .i64 s.p, u1, .int .i64 s.w, .int .i64 s.d, .int .i64 s.f, .int .i64 s.c, .int .i64 s.m, .int .i64 s.de, u8]] ⟨M, b2⟩ = some (.int .i64 (PV s), ⟨M + 1, b2⟩)) :
    LitEnd N p me bs (evFn (tabT Try.prog) call (L + 300) kpT 78 Try.f78 [.pointer (some ⟨p, 0, none⟩), .int .i64 (me : Int)] ⟨N, bs⟩) := by
  have kp := kpl
  have gc := gcl
  have hpN : p < N := hM.2 _ (lookB_mem hp)
  have n1 : ¬ p = N := by omega
  have n2 : ¬ p = N + 1 := by omega
  have hZ : MI ⟨N + 1, (N, .cells false [.int .i64 0, .slice none 0 0, .int .i64 0, .int .i64 0, .int .i64 0, .int .i64 0, .int .i64 0, .int .i64 0, .slice none 0 0]) :: bs⟩ := hM.push _
  have lk : ∀ y, lookB ((N, ABlk.cells false [.int .i64 0, .slice none 0 0, .int .i64 0, .int .i64 0, .int .i64 0, .int .i64 0, .int .i64 0, .int .i64 0, .slice none 0 0]) :: setB bs p (sB y)) p = some (sB y) := fun y => by
    simp only [lookB, beq_ne n1, Bool.false_eq_true, if_false]
    rw [lookB_setB, if_pos rfl, hp]; rfl
  have mk : ∀ y, MI ⟨N + 1, (N, .cells false [.int .i64 0, .slice none 0 0, .int .i64 0, .int .i64 0, .int .i64 0, .int .i64 0, .int .i64 0, .int .i64 0, .slice none 0 0]) :: setB bs p (sB y)⟩ := fun y => (hM.set p (sB y)).push _
  have up : ∀ y y', setB ((N, ABlk.cells false [.int .i64 0, .slice none 0 0, .int .i64 0, .int .i64 0, .int .i64 0, .int .i64 0, .int .i64 0, .int .i64 0, .slice none 0 0]) :: setB bs p (sB y)) p (sB y') = (N, ABlk.cells false [.int .i64 0, .slice none 0 0, .int .i64 0, .int .i64 0, .int .i64 0, .int .i64 0, .int .i64 0, .int .i64 0, .slice none 0 0]) :: setB bs p (sB y') := fun y y' => by
    simp only [setB, beq_ne n1, Bool.false_eq_true, if_false, setB_setB]
  have c1 : call (.func (.func 79) #[] #[]) [.pointer (some ⟨p, 0, none⟩), .int .i64 2, .int .i64 4] ⟨N + 1, (N, .cells false [.int .i64 0, .slice none 0 0, .int .i64 0, .int .i64 0, .int .i64 0, .int .i64 0, .int .i64 0, .int .i64 0, .slice none 0 0]) :: bs⟩ = some (.int .i64 (rngV x 2 4), ⟨N + 1, (N, .cells false [.int .i64 0, .slice none 0 0, .int .i64 0, .int .i64 0, .int .i64 0, .int .i64 0, .int .i64 0, .int .i64 0, .slice none 0 0]) :: setB bs p (sB (stB x))⟩) := by
    have := hS.ran (N + 1) ((N, .cells false [.int .i64 0, .slice none 0 0, .int .i64 0, .int .i64 0, .int .i64 0, .int .i64 0, .int .i64 0, .int .i64 0, .slice none 0 0]) :: bs) x 2 4 (by omega) (by omega) hZ (by simp only [lookB, beq_ne n1, Bool.false_eq_true, if_false]; exact hp)
    simp only [setB, beq_ne n1, Bool.false_eq_true, if_false] at this
    exact this
  have c2 : ∀ y, call (.func (.func 95) #[] #[]) [.pointer (some ⟨p, 0, none⟩), .int .i64 3] ⟨N + 1, (N, .cells false [.int .i64 0, .slice none 0 0, .int .i64 0, .int .i64 0, .int .i64 0, .int .i64 0, .int .i64 0, .int .i64 0, .slice none 0 0]) :: setB bs p (sB y)⟩ = some (.int .i64 (belV y 3), ⟨N + 1, (N, .cells false [.int .i64 0, .slice none 0 0, .int .i64 0, .int .i64 0, .int .i64 0, .int .i64 0, .int .i64 0, .int .i64 0, .slice none 0 0]) :: setB bs p (sB (stB y))⟩) := fun y => by
    have := hS.bel (N + 1) _ y 3 (by omega) (by omega) (mk y) (lk y)
    rw [up] at this
    exact this
  have c3 : ∀ y, call (.func (.func 95) #[] #[]) [.pointer (some ⟨p, 0, none⟩), .int .i64 2] ⟨N + 1, (N, .cells false [.int .i64 0, .slice none 0 0, .int .i64 0, .int .i64 0, .int .i64 0, .int .i64 0, .int .i64 0, .int .i64 0, .slice none 0 0]) :: setB bs p (sB y)⟩ = some (.int .i64 (belV y 2), ⟨N + 1, (N, .cells false [.int .i64 0, .slice none 0 0, .int .i64 0, .int .i64 0, .int .i64 0, .int .i64 0, .int .i64 0, .int .i64 0, .slice none 0 0]) :: setB bs p (sB (stB y))⟩) := fun y => by
    have := hS.bel (N + 1) _ y 2 (by omega) (by omega) (mk y) (lk y)
    rw [up] at this
    exact this
  have n3 : ¬ p = N + 2 := by omega
  have c4 : ∀ y, call (.func (.func 79) #[] #[]) [.pointer (some ⟨p, 0, none⟩), .int .i64 1, .int .i64 2] ⟨N + 2, (N + 1, .cells false [.int .i64 3, .slice none 0 0, .int .i64 (belV (bx 1 x) 3), .int .i64 (belV (bx 2 x) 3), .int .i64 (belV (bx 3 x) 2), .int .i64 (rngV x 2 4), .int .i64 (me : Int), .int .i64 (belV (bx 4 x) 3), .slice none 0 0]) :: (N, .cells false [.int .i64 0, .slice none 0 0, .int .i64 0, .int .i64 0, .int .i64 0, .int .i64 0, .int .i64 0, .int .i64 0, .slice none 0 0]) :: setB bs p (sB y)⟩ = some (.int .i64 (rngV y 1 2), ⟨N + 2, (N + 1, .cells false [.int .i64 3, .slice none 0 0, .int .i64 (belV (bx 1 x) 3), .int .i64 (belV (bx 2 x) 3), .int .i64 (belV (bx 3 x) 2), .int .i64 (rngV x 2 4), .int .i64 (me : Int), .int .i64 (belV (bx 4 x) 3), .slice none 0 0]) :: (N, .cells false [.int .i64 0, .slice none 0 0, .int .i64 0, .int .i64 0, .int .i64 0, .int .i64 0, .int .i64 0, .int .i64 0, .slice none 0 0]) :: setB bs p (sB (stB y))⟩) := fun y => by
    have := hS.ran (N + 2) ((N + 1, .cells false [.int .i64 3, .slice none 0 0, .int .i64 (belV (bx 1 x) 3), .int .i64 (belV (bx 2 x) 3), .int .i64 (belV (bx 3 x) 2), .int .i64 (rngV x 2 4), .int .i64 (me : Int), .int .i64 (belV (bx 4 x) 3), .slice none 0 0]) :: (N, .cells false [.int .i64 0, .slice none 0 0, .int .i64 0, .int .i64 0, .int .i64 0, .int .i64 0, .int .i64 0, .int .i64 0, .slice none 0 0]) :: setB bs p (sB y)) y 1 2 (by omega) (by omega) ((mk y).push _) (by
      simp only [lookB, beq_ne n2, Bool.false_eq_true, if_false]; exact lk y)
    simp only [setB, beq_ne n1, beq_ne n2, Bool.false_eq_true, if_false, setB_setB] at this
    exact this
  simp only [bx] at c4
  simp only [evFn, Try.f78]
  simp [ec_skip, ec_label, ek_reg, ek_draw, ek_seq, ec_cond, ek_block, ec_loop, ec_exit, ec_ret, ec_scope, ek_nil, ek_op, opK_some, regK_some, seqK_normal, seqK_exit, seqK_ret, blockK_normal, blockK_exit, blockK_ret, evOp, vOp, hOpB, hOpU, hOp, hOpT, aAppendG_tab, aWanted, aYielded, opd, putT, closedV, aBin, intOp, sameK, mapO, joinR, hasAddr, boundOf, pushB, aAlloc, Value.cells, lookB, setB, Nat.beq_eq, tm_n_set, tm_get_set, tm_of_n, tm_of_get, tm_tr_set, tm_tr_of, cellV, putF, appR_eq, takeR_eq, dropR_eq, setR_eq, getR_eq, ↓C75, ↓C76, ↓C77, ↓C79, ↓C17, ↓C18, ↓C22, ↓C71, FA24_0, FA24_1, FA24_2, FA24_3, FA24_4, FA24_5, FA24_6, FA24_7, FA24_8, LD3, LD4, LD22, LD27, LDr, LD24, LEN22, IA22, tkc, cellAt, ↓AL24, ↓Cran, ↓Crange, ↓Cbelow, c1, c2, c3, c4, ST24, BD24, partsO]
  generalize hr : evLoop _ _ _ _ = r
  obtain ⟨q1, q1e, q1h, q1b⟩ : ∃ q : Nat, rngV (stB (stB (stB (stB (stB x))))) 1 2 = (q : Int) ∧ 1 ≤ q ∧ q ≤ 2 := by
    have := rngV_bd (stB (stB (stB (stB (stB x))))) (lo := 1) (hi := 2) (by omega) (by omega)
    exact ⟨(rngV (stB (stB (stB (stB (stB x))))) 1 2).toNat, by omega, by omega, by omega⟩
  rw [q1e] at hr
  obtain ⟨y, A', H', rfl, rfl, s, x2, u1, hK, hB, hk0, hn1, hl, hmk, t0, t1, t4, t5⟩ := loop_go (Q := QL1 N p me bs q1) hr (IL1 N p me bs q1) q1 (by omega) (by
    have e0 := rngV_bd x (lo := 2) (hi := 4) (by omega) (by omega)
    have e1 := belV_bd (stB x) (n := 3) (by omega) (by omega)
    have e2 := belV_bd (stB (stB x)) (n := 3) (by omega) (by omega)
    have e3 := belV_bd (stB (stB (stB x))) (n := 2) (by omega) (by omega)
    have e4 := belV_bd (stB (stB (stB (stB x)))) (n := 3) (by omega) (by omega)
    refine ⟨⟨3, 0, fun _ => 0, belV (stB x) 3, belV (stB (stB x)) 3, belV (stB (stB (stB x))) 2, rngV x 2 4, me, belV (stB (stB (stB (stB x)))) 3, 0, fun _ => 0⟩, stB (stB (stB (stB (stB (stB x))))), .slice none 0 0, ⟨(mk _).push _, by show N + 1 < N + 2; omega, hpN, ?_, ?_, ?_, ?_, .inl ⟨rfl, rfl⟩, .inl ⟨rfl, rfl⟩, fun a b n k h => by cases h⟩, ⟨rfl, rfl, by show 2 ≤ rngV x 2 4 ∧ rngV x 2 4 ≤ 4; omega, by show 0 ≤ belV (stB x) 3 ∧ belV (stB x) 3 ≤ 4; omega, by show 0 ≤ belV (stB (stB x)) 3 ∧ belV (stB (stB x)) 3 ≤ 3; omega, by show 0 ≤ belV (stB (stB (stB x))) 2 ∧ belV (stB (stB (stB x))) 2 ≤ 1; omega, by show 0 ≤ belV (stB (stB (stB (stB x)))) 3 ∧ belV (stB (stB (stB (stB x)))) 3 ≤ 2; omega, fun i hi => by simp at hi, by show 0 ≤ 2; omega⟩, rfl, by show 0 + q1 = q1; omega, ⟨by simp [tm_n_set, tm_of_n], rfl, by simp [tm_get_set, tm_n_set, tm_of_n, tm_of_get], by simp [tm_get_set, tm_n_set, tm_of_n, tm_of_get], by simp [tm_get_set, tm_n_set, tm_of_n, tm_of_get], by simp [tm_get_set, tm_n_set, tm_of_n, tm_of_get]⟩, by simp [tm_get_set, tm_n_set, tm_of_n, tm_of_get]⟩
    · show lookB ((N + 1, _) :: _) p = _
      rw [lookB]
      simp only [beq_ne n2, Bool.false_eq_true, if_false]
      exact lk _
    · simp [lookB]
    · simp [lookB]
    · intro j hj hjp
      have a1 : ¬ j = N + 1 := by omega
      have a2 : ¬ j = N := by omega
      simp [lookB, Nat.beq_eq, a1, a2, lookB_setB, hjp]) (by
    clear hr
    rintro m A ⟨nx, b1⟩ ⟨s, x1, u1, hK, hB, hk0, him, ⟨hl, hmk, t0, t1, t4, t5⟩, t6⟩
    simp only [runC]
    cases m with
    | zero =>
      simp [ec_skip, ec_label, ek_reg, ek_draw, ek_seq, ec_cond, ek_block, ec_loop, ec_exit, ec_ret, ec_scope, ek_nil, ek_op, opK_some, regK_some, seqK_normal, seqK_exit, seqK_ret, blockK_normal, blockK_exit, blockK_ret, evOp, vOp, hOpB, hOpU, hOp, hOpT, aAppendG_tab, aWanted, aYielded, opd, putT, closedV, aBin, intOp, sameK, mapO, joinR, hasAddr, boundOf, pushB, aAlloc, Value.cells, lookB, setB, Nat.beq_eq, tm_n_set, tm_get_set, tm_of_n, tm_of_get, tm_tr_set, tm_tr_of, cellV, putF, appR_eq, takeR_eq, dropR_eq, setR_eq, getR_eq, ↓C75, ↓C76, ↓C77, ↓C79, ↓C17, ↓C18, ↓C22, ↓C71, FA24_0, FA24_1, FA24_2, FA24_3, FA24_4, FA24_5, FA24_6, FA24_7, FA24_8, LD3, LD4, LD22, LD27, LDr, LD24, LEN22, IA22, tkc, cellAt, hl, hmk, t0, t1, t4, t5, t6]
      exact .inr ⟨by simp, rfl, s, x1, u1, hK, hB, hk0, by omega, by simp [tm_n_set, hl], rfl, by simp [tm_get_set, tm_n_set, hl, t0], by simp [tm_get_set, tm_n_set, hl, t1], by simp [tm_get_set, tm_n_set, hl, t4], by simp [tm_get_set, tm_n_set, hl, t5]⟩
    | succ m =>
      have hw : wrapI .i64 (((m + 1 : Nat) : Int) - 1) = (m : Int) := by rw [wrapI_small (by omega) (by omega)]; omega
      have hpos : (0 : Int) < ((m + 1 : Nat) : Int) := by omega
      have hnn := hB.n
      have hnx : N + 1 < nx := hK.nx
      have hK2 := hK.step (y := stB x1)
      obtain ⟨bs2, hs, hb1, hb2, hap⟩ := hK2.app1 (by omega)
      obtain ⟨cs, hg, hgk, e, hK3⟩ := hap (rngV x1 3 5)
      have hrb := rngV_bd x1 (lo := 3) (hi := 5) (by omega) (by omega)
      have c5 : call (.func (.func 79) #[] #[]) [.pointer (some ⟨p, 0, none⟩), .int .i64 3, .int .i64 5] ⟨nx, b1⟩ = some (.int .i64 (rngV x1 3 5), ⟨nx, setB b1 p (sB (stB x1))⟩) := hS.ran nx b1 x1 3 5 (by omega) (by omega) hK.mi hK.src
      have L0 := hK.set
      have L1 := lookB_roB_cells _ _ _ _ hK.set hK.mi.1
      have L2 := lookB_roB_cells _ _ _ _ hK2.set hK2.mi.1
      have L3 := hb1.trans hK2.set
      have D1 := hK2.mi.1
      have D2 := (hK2.mi.push (.cells false [.int .i64 (rngV x1 3 5)])).1
      have ap1 := app_ro1 hK.mi u1
      have er := eqFL hK.l1
      have nle : ¬ nx + 1 ≤ nx := by omega
      have m1 : ¬ N + 1 = nx := by omega
      have m2 : ¬ N = nx := by omega
      have m3 : ¬ N + 1 = nx + 1 := by omega
      have nw := newOnes_ro b1 nx hK.mi.2
      simp only at e D1 D2 L2 hK3 L3 ap1 nw
      simp [ec_skip, ec_label, ek_reg, ek_draw, ek_seq, ec_cond, ek_block, ec_loop, ec_exit, ec_ret, ec_scope, ek_nil, ek_op, opK_some, regK_some, seqK_normal, seqK_exit, seqK_ret, blockK_normal, blockK_exit, blockK_ret, evOp, vOp, hOpB, hOpU, hOp, hOpT, aAppendG_tab, aWanted, aYielded, opd, putT, closedV, aBin, intOp, sameK, mapO, joinR, hasAddr, boundOf, pushB, aAlloc, Value.cells, lookB, setB, Nat.beq_eq, tm_n_set, tm_get_set, tm_of_n, tm_of_get, tm_tr_set, tm_tr_of, cellV, putF, appR_eq, takeR_eq, dropR_eq, setR_eq, getR_eq, ↓C75, ↓C76, ↓C77, ↓C79, ↓C17, ↓C18, ↓C22, ↓C71, FA24_0, FA24_1, FA24_2, FA24_3, FA24_4, FA24_5, FA24_6, FA24_7, FA24_8, LD3, LD4, LD22, LD27, LDr, LD24, LEN22, IA22, tkc, cellAt, hl, hmk, t0, t1, t4, t5, t6, hpos]
      generalize hX : evDrawX _ _ _ _ _ = X
      obtain ⟨tm, rfl, hn', z0, z1, z4, z5, z6⟩ := draw_any (H' := ⟨nx + 2, (nx + 1, .cells false cs) :: (nx, .cells false [.int .i64 (rngV x1 3 5)]) :: setB bs2 (N + 1) (.cells false [.int .i64 s.p, .slice (some ⟨nx + 1, 0, none⟩) (s.n + 1) 1, .int .i64 s.w, .int .i64 s.d, .int .i64 s.f, .int .i64 s.c, .int .i64 s.m, .int .i64 s.de, .slice none 0 0])⟩) (Pt := fun tm => tm.get 0 = .pointer (some ⟨p, 0, none⟩) ∧ tm.get 1 = .int .i64 (me : Int) ∧ tm.get 4 = .pointer (some ⟨N, 0, none⟩) ∧ tm.get 5 = .pointer (some ⟨N + 1, 0, none⟩) ∧ tm.get 6 = .int .i64 ((m + 1 : Nat) : Int)) hX (by kernel_rfl) hK.mi.1 (by
        clear hX
        generalize hMM : befs _ = M
        have o34 : ordB M 3 4 = true := by rw [← hMM]; kernel_rfl
        have o43 : ordB M 4 3 = true := by rw [← hMM]; kernel_rfl
        have o35 : ordB M 3 5 = true := by rw [← hMM]; kernel_rfl
        have o53 : ordB M 5 3 = true := by rw [← hMM]; kernel_rfl
        have o37 : ordB M 3 7 = true := by rw [← hMM]; kernel_rfl
        have o73 : ordB M 7 3 = true := by rw [← hMM]; kernel_rfl
        have o45 : ordB M 4 5 = true := by rw [← hMM]; kernel_rfl
        have o54 : ordB M 5 4 = true := by rw [← hMM]; kernel_rfl
        have o47 : ordB M 4 7 = true := by rw [← hMM]; kernel_rfl
        have o74 : ordB M 7 4 = true := by rw [← hMM]; kernel_rfl
        have o57 : ordB M 5 7 = true := by rw [← hMM]; kernel_rfl
        have o75 : ordB M 7 5 = true := by rw [← hMM]; kernel_rfl
        have o51 : ordB M 5 1 = true := by rw [← hMM]; kernel_rfl
        have o71 : ordB M 7 1 = true := by rw [← hMM]; kernel_rfl
        clear hMM
        simp [mapO, drRun, drOp, dr3, looks, guardT, tmpsOf, Op.operands, Call.operands, wantedR, gOf, finT, natMem, isNil, writesF, evOp, vOp, hOpB, hOpU, hOp, hOpT, aAppendG_tab, opd, closedV, aBin, intOp, sameK, opdO, boundOf, undef, lookB, Nat.beq_eq, tm_n_set, tm_get_set, tm_of_n, tm_of_get, tm_tr_set, tm_tr_of, b02, b12, b32, ↓G75, W75, ↓G76, W76, ↓G77, W77, ↓G79, W79, ↓G17, W17, ↓G18, W18, ↓G22, W22, ↓G71, W71, tv, all1, roB, roK, news, newOnes, decr, tkc, cellAt, LD3, LD4, LD22, LD27, LDr, LD24, LEN22, IA22, FA24_0, FA24_1, FA24_2, FA24_3, FA24_4, FA24_5, FA24_6, FA24_7, FA24_8, hasR, hasR_ro, aAppendG_tab, partsO, ↓Gran, Wran, BS22, APT22, pushB, ST22, hl, t0, t1, t4, t5, t6, c5, L0, L1, L2, L3, m1, m2, m3, ap1, e, nw, nle, er, wheap, Nat.ble_eq, Nat.blt_eq, putF, Value.cells, cellV]
        refine ⟨_, _, ⟨rfl, rfl⟩, ?_, ?_, ?_⟩
        · simp [dynOK, rdSame, evOp, vOp, hOpB, hOpU, hOp, hOpT, mapO, opd, gOf, natMem, finT, tm_get_set, tm_n_set, LD22, cellAt, roB, roK, lookB, L2, L3, D1, D2, er, o34, o43, o35, o53, o37, o73, o45, o54, o47, o74, o57, o75, o51, o71, b02, b12, b32, b03, b13, b23, m1, m2, m3, Nat.blt_eq, Nat.ble_eq, Nat.beq_eq, hl, hasR, hasR_ro]
        · simp [wheap, news, b02, b12, b32, Nat.beq_eq, all1, setB, setR_eq, m1, m2, m3]
        · simp [finT, tm_get_set, tm_n_set, hl, t0, t1, t4, t5, t6])
      clear hX
      simp [tm_n_set, hl] at hn'
      simp [ec_skip, ec_label, ek_reg, ek_draw, ek_seq, ec_cond, ek_block, ec_loop, ec_exit, ec_ret, ec_scope, ek_nil, ek_op, opK_some, regK_some, seqK_normal, seqK_exit, seqK_ret, blockK_normal, blockK_exit, blockK_ret, evOp, vOp, hOpB, hOpU, hOp, hOpT, aAppendG_tab, aWanted, aYielded, opd, putT, closedV, aBin, intOp, sameK, mapO, joinR, hasAddr, boundOf, pushB, aAlloc, Value.cells, lookB, setB, Nat.beq_eq, tm_n_set, tm_get_set, tm_of_n, tm_of_get, tm_tr_set, tm_tr_of, cellV, putF, appR_eq, takeR_eq, dropR_eq, setR_eq, getR_eq, ↓C75, ↓C76, ↓C77, ↓C79, ↓C17, ↓C18, ↓C22, ↓C71, FA24_0, FA24_1, FA24_2, FA24_3, FA24_4, FA24_5, FA24_6, FA24_7, FA24_8, LD3, LD4, LD22, LD27, LDr, LD24, LEN22, IA22, tkc, cellAt, hmk, hn', z0, z1, z4, z5, z6]
      have hw2 : wrapI .i64 (m : Int) = m := wrapI_small (by omega) (by omega)
      refine ⟨_, _, _, ⟨rfl, rfl, rfl⟩, .inl ⟨rfl, m, rfl, { s with n := s.n + 1, g := gi cs }, stB x1, _, hK3, ⟨hB.p, hB.m, hB.c, hB.w, hB.d, hB.f, hB.de, fun i hi => ?_, ?_⟩, hk0, ?_, ⟨by simp [tm_n_set, hn'], rfl, by simp [tm_get_set, tm_n_set, hn', z0], by simp [tm_get_set, tm_n_set, hn', z1], by simp [tm_get_set, tm_n_set, hn', z4], by simp [tm_get_set, tm_n_set, hn', z5]⟩, by simp [tm_get_set, tm_n_set, hn', hw2]⟩⟩
      · by_cases h : i < s.n
        · show 3 ≤ gi cs i ∧ gi cs i ≤ 5
          rw [hg i h]
          exact hB.g i h
        · have : i < s.n + 1 := hi
          have : i = s.n := by omega
          subst this
          show 3 ≤ gi cs s.n ∧ gi cs s.n ≤ 5
          rw [hgk]
          exact hrb
      · show s.n + 1 ≤ 2
        omega
      · show s.n + 1 + m = q1
        omega)
  have LS := hK.set
  have mb : (1 : Int) ≤ me ∧ (me : Int) ≤ 2 := by omega
  have hde := hB.de
  have hbc := hB.c
  have hbw := hB.w
  have hbd := hB.d
  have v1 : wrapI .i64 (3 * (me : Int)) = 3 * me := wrapI_small (by omega) (by omega)
  have v2 : wrapI .i64 (3 * (me : Int) + 1) = 3 * me + 1 := wrapI_small (by omega) (by omega)
  have v3 : wrapI .i64 (3 * (3 * (me : Int) + 1)) = 3 * (3 * me + 1) := wrapI_small (by omega) (by omega)
  have v4 : wrapI .i64 (3 * (3 * (me : Int) + 1) + 1) = 3 * (3 * me + 1) + 1 := wrapI_small (by omega) (by omega)
  have v5 : wrapI .i64 (3 * (3 * (me : Int) + 1) + 1 + s.de) = 3 * (3 * me + 1) + 1 + s.de := wrapI_small (by omega) (by omega)
  simp [ec_skip, ec_label, ek_reg, ek_draw, ek_seq, ec_cond, ek_block, ec_loop, ec_exit, ec_ret, ec_scope, ek_nil, ek_op, opK_some, regK_some, seqK_normal, seqK_exit, seqK_ret, blockK_normal, blockK_exit, blockK_ret, evOp, vOp, hOpB, hOpU, hOp, hOpT, aAppendG_tab, aWanted, aYielded, opd, putT, closedV, aBin, intOp, sameK, mapO, joinR, hasAddr, boundOf, pushB, aAlloc, Value.cells, lookB, setB, Nat.beq_eq, tm_n_set, tm_get_set, tm_of_n, tm_of_get, tm_tr_set, tm_tr_of, cellV, putF, appR_eq, takeR_eq, dropR_eq, setR_eq, getR_eq, ↓C75, ↓C76, ↓C77, ↓C79, ↓C17, ↓C18, ↓C22, ↓C71, FA24_0, FA24_1, FA24_2, FA24_3, FA24_4, FA24_5, FA24_6, FA24_7, FA24_8, LD3, LD4, LD22, LD27, LDr, LD24, LEN22, IA22, tkc, cellAt, hl, hmk, t0, t1, t4, t5, LS, hB.p, v1, v2, v3, v4, v5]
  generalize hr2 : evLoop _ _ _ _ = r2
  obtain ⟨y, A2, H2, rfl, rfl, s2, x3, u2, hK2, hB2, hk2, hn2, hNV, hle, hl, hmk, t0, t1, t4, t5⟩ := loop_go (Q := QL2 N p me bs q1 (3 * (3 * (me : Int) + 1) + 1 + s.de)) hr2 (IL2 N p me bs q1 (3 * (3 * (me : Int) + 1) + 1 + s.de)) ((4 - s.c) + (4 - s.w) + (3 - s.d)).toNat (by omega) ⟨s, x2, u1, hK, hB, hk0, hn1, rfl, by omega, ⟨by simp [tm_n_set, hl], by simp [hmk], by simp [tm_get_set, tm_n_set, hl, t0], by simp [tm_get_set, tm_n_set, hl, t1], by simp [tm_get_set, tm_n_set, hl, t4], by simp [tm_get_set, tm_n_set, hl, t5]⟩, by simp [tm_get_set, tm_n_set, hl]⟩ (by
    clear hr2
    rintro m A ⟨nx, b1⟩ ⟨s1, x1, u1, hK, hB, hk0, hn1, hNV, hm, ⟨hl, hmk, t0, t1, t4, t5⟩, t7⟩
    simp only [runC]
    obtain ⟨S, hPV, hS1, hS2⟩ := PV_bd hB (by omega)
    have hbc := hB.c
    have hbw := hB.w
    have hbd := hB.d
    have hbf := hB.f
    have hnx : N + 1 < nx := hK.nx
    have hpc : 0 ≤ PV s1 * s1.c ∧ PV s1 * s1.c ≤ 68 ∧ (4 ≤ s1.c → PV s1 * s1.c = 4 * PV s1) := by
      rcases (show s1.c = 2 ∨ s1.c = 3 ∨ s1.c = 4 by omega) with h | h | h <;> rw [h] <;> omega
    have w1 : wrapI .i64 (PV s1 * s1.c) = PV s1 * s1.c := wrapI_small (by omega) (by omega)
    have w2 : wrapI .i64 (PV s1 * s1.c + s1.f) = PV s1 * s1.c + s1.f := wrapI_small (by omega) (by omega)
    have L0 := hK.set
    have L1 := lookB_roB_cells _ _ _ _ hK.set hK.mi.1
    have cp := hPl nx (roB b1) s1 u1 (.slice none 0 0) hK.mi.ro (hK.l1.lst.ro hK.mi.1) (by omega)
    have nw := newOnes_ro b1 nx hK.mi.2
    have nw1 := newOnes_ro b1 (nx + 1) (fun q hq => Nat.lt_succ_of_lt (hK.mi.2 q hq))
    simp only at L0 L1 nw nw1
    simp [ec_skip, ec_label, ek_reg, ek_draw, ek_seq, ec_cond, ek_block, ec_loop, ec_exit, ec_ret, ec_scope, ek_nil, ek_op, opK_some, regK_some, seqK_normal, seqK_exit, seqK_ret, blockK_normal, blockK_exit, blockK_ret, evOp, vOp, hOpB, hOpU, hOp, hOpT, aAppendG_tab, aWanted, aYielded, opd, putT, closedV, aBin, intOp, sameK, mapO, joinR, hasAddr, boundOf, pushB, aAlloc, Value.cells, lookB, setB, Nat.beq_eq, tm_n_set, tm_get_set, tm_of_n, tm_of_get, tm_tr_set, tm_tr_of, cellV, putF, appR_eq, takeR_eq, dropR_eq, setR_eq, getR_eq, ↓C75, ↓C76, ↓C77, ↓C79, ↓C17, ↓C18, ↓C22, ↓C71, FA24_0, FA24_1, FA24_2, FA24_3, FA24_4, FA24_5, FA24_6, FA24_7, FA24_8, LD3, LD4, LD22, LD27, LDr, LD24, LEN22, IA22, tkc, cellAt, hl, hmk, t0, t1, t4, t5, t7]
    generalize hX : evDrawX _ _ _ _ _ = X
    obtain ⟨tm, rfl, hn', z0, z1, z4, z5, z7, z53⟩ := draw_any (H' := ⟨nx + 1, b1⟩) (Pt := fun tm => tm.get 0 = .pointer (some ⟨p, 0, none⟩) ∧ tm.get 1 = .int .i64 (me : Int) ∧ tm.get 4 = .pointer (some ⟨N, 0, none⟩) ∧ tm.get 5 = .pointer (some ⟨N + 1, 0, none⟩) ∧ tm.get 7 = .int .i64 (3 * (3 * (me : Int) + 1) + 1 + s.de) ∧ tm.get 53 = .bool (decide (PV s1 * s1.c + s1.f < 3 * (3 * (me : Int) + 1) + 1 + s.de))) hX (by kernel_rfl) hK.mi.1 (by
      clear hX
      generalize befs _ = M
      simp [mapO, drRun, drOp, dr3, looks, guardT, tmpsOf, Op.operands, Call.operands, wantedR, gOf, finT, natMem, isNil, writesF, evOp, vOp, hOpB, hOpU, hOp, hOpT, aAppendG_tab, opd, closedV, aBin, intOp, sameK, opdO, boundOf, undef, lookB, Nat.beq_eq, tm_n_set, tm_get_set, tm_of_n, tm_of_get, tm_tr_set, tm_tr_of, b02, b12, b32, ↓G75, W75, ↓G76, W76, ↓G77, W77, ↓G79, W79, ↓G17, W17, ↓G18, W18, ↓G22, W22, ↓G71, W71, tv, all1, roB, roK, news, newOnes, decr, tkc, cellAt, LD3, LD4, LD22, LD27, LDr, LD24, LEN22, IA22, FA24_0, FA24_1, FA24_2, FA24_3, FA24_4, FA24_5, FA24_6, FA24_7, FA24_8, hasR, hasR_ro, ↓Gpl, Wpl, hl, t0, t1, t4, t5, t7, cp, L0, L1, nw, nw1, wheap, Nat.ble_eq, Nat.blt_eq]
      refine ⟨_, _, ⟨rfl, rfl⟩, ?_, ?_, ?_⟩
      · simp [dynOK, b02, b12, b32, b03, b13, b23, Nat.blt_eq, Nat.beq_eq, hl]
      · simp [wheap, news, b02, b12, b32, Nat.beq_eq, all1]
      · simp [finT, tm_get_set, tm_n_set, hl, t0, t1, t4, t5, t7, w1, w2])
    clear hX
    simp [tm_n_set, hl] at hn'
    have hKu := hK.up (nx := nx + 1) (Nat.le_succ _)
    by_cases hlt : PV s1 * s1.c + s1.f < 3 * (3 * (me : Int) + 1) + 1 + s.de
    · have hz : tm.get 53 = .bool true := by rw [z53]; simp [hlt]
      by_cases hc : s1.c < 4
      · have hw1 : wrapI .i64 (s1.c + 1) = s1.c + 1 := wrapI_small (by omega) (by omega)
        obtain ⟨m, rfl⟩ : ∃ m', m = m' + 1 := ⟨m - 1, by omega⟩
        have hKp := hKu.put { s1 with c := s1.c + 1 } rfl rfl rfl rfl
        have hBp : LB me { s1 with c := s1.c + 1 } := ⟨hB.p, hB.m, by show 2 ≤ s1.c + 1 ∧ s1.c + 1 ≤ 4; omega, hB.w, hB.d, hB.f, hB.de, hB.g, hB.n⟩
        simp [ec_skip, ec_label, ek_reg, ek_draw, ek_seq, ec_cond, ek_block, ec_loop, ec_exit, ec_ret, ec_scope, ek_nil, ek_op, opK_some, regK_some, seqK_normal, seqK_exit, seqK_ret, blockK_normal, blockK_exit, blockK_ret, evOp, vOp, hOpB, hOpU, hOp, hOpT, aAppendG_tab, aWanted, aYielded, opd, putT, closedV, aBin, intOp, sameK, mapO, joinR, hasAddr, boundOf, pushB, aAlloc, Value.cells, lookB, setB, Nat.beq_eq, tm_n_set, tm_get_set, tm_of_n, tm_of_get, tm_tr_set, tm_tr_of, cellV, putF, appR_eq, takeR_eq, dropR_eq, setR_eq, getR_eq, ↓C75, ↓C76, ↓C77, ↓C79, ↓C17, ↓C18, ↓C22, ↓C71, FA24_0, FA24_1, FA24_2, FA24_3, FA24_4, FA24_5, FA24_6, FA24_7, FA24_8, LD3, LD4, LD22, LD27, LDr, LD24, LEN22, IA22, tkc, cellAt, hmk, hn', z0, z1, z4, z5, z7, hz, L0, STi, hw1, hc]
        refine ⟨_, _, _, ⟨rfl, rfl, rfl⟩, .inl ⟨rfl, m, rfl, { s1 with c := s1.c + 1 }, x1, u1, hKp, hBp, hk0, hn1, hNV, ?_, ⟨by simp [tm_n_set, hn'], rfl, by simp [tm_get_set, tm_n_set, hn', z0], by simp [tm_get_set, tm_n_set, hn', z1], by simp [tm_get_set, tm_n_set, hn', z4], by simp [tm_get_set, tm_n_set, hn', z5]⟩, by simp [tm_get_set, tm_n_set, hn', z7]⟩⟩
        show (4 - (s1.c + 1)) + (4 - s1.w) + (3 - s1.d) = (m : Int)
        omega
      · by_cases hw : s1.w < 4
        · have hw1 : wrapI .i64 (s1.w + 1) = s1.w + 1 := wrapI_small (by omega) (by omega)
          obtain ⟨m, rfl⟩ : ∃ m', m = m' + 1 := ⟨m - 1, by omega⟩
          have hKp := hKu.put { s1 with w := s1.w + 1 } rfl rfl rfl rfl
          have hBp : LB me { s1 with w := s1.w + 1 } := ⟨hB.p, hB.m, hB.c, by show 0 ≤ s1.w + 1 ∧ s1.w + 1 ≤ 4; omega, hB.d, hB.f, hB.de, hB.g, hB.n⟩
          simp [ec_skip, ec_label, ek_reg, ek_draw, ek_seq, ec_cond, ek_block, ec_loop, ec_exit, ec_ret, ec_scope, ek_nil, ek_op, opK_some, regK_some, seqK_normal, seqK_exit, seqK_ret, blockK_normal, blockK_exit, blockK_ret, evOp, vOp, hOpB, hOpU, hOp, hOpT, aAppendG_tab, aWanted, aYielded, opd, putT, closedV, aBin, intOp, sameK, mapO, joinR, hasAddr, boundOf, pushB, aAlloc, Value.cells, lookB, setB, Nat.beq_eq, tm_n_set, tm_get_set, tm_of_n, tm_of_get, tm_tr_set, tm_tr_of, cellV, putF, appR_eq, takeR_eq, dropR_eq, setR_eq, getR_eq, ↓C75, ↓C76, ↓C77, ↓C79, ↓C17, ↓C18, ↓C22, ↓C71, FA24_0, FA24_1, FA24_2, FA24_3, FA24_4, FA24_5, FA24_6, FA24_7, FA24_8, LD3, LD4, LD22, LD27, LDr, LD24, LEN22, IA22, tkc, cellAt, hmk, hn', z0, z1, z4, z5, z7, hz, L0, STi, hw1, hc, hw]
          refine ⟨_, _, _, ⟨rfl, rfl, rfl⟩, .inl ⟨rfl, m, rfl, { s1 with w := s1.w + 1 }, x1, u1, hKp, hBp, hk0, hn1, hNV, ?_, ⟨by simp [tm_n_set, hn'], rfl, by simp [tm_get_set, tm_n_set, hn', z0], by simp [tm_get_set, tm_n_set, hn', z1], by simp [tm_get_set, tm_n_set, hn', z4], by simp [tm_get_set, tm_n_set, hn', z5]⟩, by simp [tm_get_set, tm_n_set, hn', z7]⟩⟩
          show (4 - s1.c) + (4 - (s1.w + 1)) + (3 - s1.d) = (m : Int)
          omega
        · by_cases hd : s1.d < 3
          · have hw1 : wrapI .i64 (s1.d + 1) = s1.d + 1 := wrapI_small (by omega) (by omega)
            obtain ⟨m, rfl⟩ : ∃ m', m = m' + 1 := ⟨m - 1, by omega⟩
            have hKp := hKu.put { s1 with d := s1.d + 1 } rfl rfl rfl rfl
            have hBp : LB me { s1 with d := s1.d + 1 } := ⟨hB.p, hB.m, hB.c, hB.w, by show 0 ≤ s1.d + 1 ∧ s1.d + 1 ≤ 3; omega, hB.f, hB.de, hB.g, hB.n⟩
            simp [ec_skip, ec_label, ek_reg, ek_draw, ek_seq, ec_cond, ek_block, ec_loop, ec_exit, ec_ret, ec_scope, ek_nil, ek_op, opK_some, regK_some, seqK_normal, seqK_exit, seqK_ret, blockK_normal, blockK_exit, blockK_ret, evOp, vOp, hOpB, hOpU, hOp, hOpT, aAppendG_tab, aWanted, aYielded, opd, putT, closedV, aBin, intOp, sameK, mapO, joinR, hasAddr, boundOf, pushB, aAlloc, Value.cells, lookB, setB, Nat.beq_eq, tm_n_set, tm_get_set, tm_of_n, tm_of_get, tm_tr_set, tm_tr_of, cellV, putF, appR_eq, takeR_eq, dropR_eq, setR_eq, getR_eq, ↓C75, ↓C76, ↓C77, ↓C79, ↓C17, ↓C18, ↓C22, ↓C71, FA24_0, FA24_1, FA24_2, FA24_3, FA24_4, FA24_5, FA24_6, FA24_7, FA24_8, LD3, LD4, LD22, LD27, LDr, LD24, LEN22, IA22, tkc, cellAt, hmk, hn', z0, z1, z4, z5, z7, hz, L0, STi, hw1, hc, hw, hd]
            refine ⟨_, _, _, ⟨rfl, rfl, rfl⟩, .inl ⟨rfl, m, rfl, { s1 with d := s1.d + 1 }, x1, u1, hKp, hBp, hk0, hn1, hNV, ?_, ⟨by simp [tm_n_set, hn'], rfl, by simp [tm_get_set, tm_n_set, hn', z0], by simp [tm_get_set, tm_n_set, hn', z1], by simp [tm_get_set, tm_n_set, hn', z4], by simp [tm_get_set, tm_n_set, hn', z5]⟩, by simp [tm_get_set, tm_n_set, hn', z7]⟩⟩
            show (4 - s1.c) + (4 - s1.w) + (3 - (s1.d + 1)) = (m : Int)
            omega
          · exfalso
            have := hpc.2.2 (by omega)
            omega
    · have hz : tm.get 53 = .bool false := by rw [z53]; simp [hlt]
      simp [ec_skip, ec_label, ek_reg, ek_draw, ek_seq, ec_cond, ek_block, ec_loop, ec_exit, ec_ret, ec_scope, ek_nil, ek_op, opK_some, regK_some, seqK_normal, seqK_exit, seqK_ret, blockK_normal, blockK_exit, blockK_ret, evOp, vOp, hOpB, hOpU, hOp, hOpT, aAppendG_tab, aWanted, aYielded, opd, putT, closedV, aBin, intOp, sameK, mapO, joinR, hasAddr, boundOf, pushB, aAlloc, Value.cells, lookB, setB, Nat.beq_eq, tm_n_set, tm_get_set, tm_of_n, tm_of_get, tm_tr_set, tm_tr_of, cellV, putF, appR_eq, takeR_eq, dropR_eq, setR_eq, getR_eq, ↓C75, ↓C76, ↓C77, ↓C79, ↓C17, ↓C18, ↓C22, ↓C71, FA24_0, FA24_1, FA24_2, FA24_3, FA24_4, FA24_5, FA24_6, FA24_7, FA24_8, LD3, LD4, LD22, LD27, LDr, LD24, LEN22, IA22, tkc, cellAt, hmk, hn', z0, z1, z4, z5, z7, hz, L0]
      exact ⟨_, _, _, ⟨rfl, rfl, rfl⟩, .inr ⟨by simp, rfl, s1, x1, u1, hKu, hB, hk0, hn1, hNV, by omega, hn', rfl, z0, z1, z4, z5⟩⟩)
  simp [ec_skip, ec_label, ek_reg, ek_draw, ek_seq, ec_cond, ek_block, ec_loop, ec_exit, ec_ret, ec_scope, ek_nil, ek_op, opK_some, regK_some, seqK_normal, seqK_exit, seqK_ret, blockK_normal, blockK_exit, blockK_ret, evOp, vOp, hOpB, hOpU, hOp, hOpT, aAppendG_tab, aWanted, aYielded, opd, putT, closedV, aBin, intOp, sameK, mapO, joinR, hasAddr, boundOf, pushB, aAlloc, Value.cells, lookB, setB, Nat.beq_eq, tm_n_set, tm_get_set, tm_of_n, tm_of_get, tm_tr_set, tm_tr_of, cellV, putF, appR_eq, takeR_eq, dropR_eq, setR_eq, getR_eq, ↓C75, ↓C76, ↓C77, ↓C79, ↓C17, ↓C18, ↓C22, ↓C71, FA24_0, FA24_1, FA24_2, FA24_3, FA24_4, FA24_5, FA24_6, FA24_7, FA24_8, LD3, LD4, LD22, LD27, LDr, LD24, LEN22, IA22, tkc, cellAt, hl, hmk, t0, t1, t4, t5]
  generalize hr3 : evLoop _ _ _ _ = r3
  obtain ⟨P, hP, hPb⟩ : ∃ P : Nat, PV s2 = (P : Int) ∧ P ≤ 17 := by
    obtain ⟨S, h1, h2, h3⟩ := PV_bd hB2 (by omega)
    have := hB2.w
    have := hB2.d
    have := hB2.n
    exact ⟨(PV s2).toNat, by omega, by omega⟩
  obtain ⟨y, A3, H3, rfl, rfl, s3, x4, u3, v3', hK3, hB3, hR3, hn3, hP3, hNV3, hle3, hl, hmk, t0, t1, t4, t5⟩ := loop_go (Q := QL3 N p me bs q1 P (3 * (3 * (me : Int) + 1) + 1 + s.de)) hr3 (IL3 N p me bs q1 P (3 * (3 * (me : Int) + 1) + 1 + s.de)) P (by omega) ⟨s2, x3, u2, .slice none 0 0, 0, hK2, hB2, ⟨by omega, fun i hi => by omega, fun i hi => by omega⟩, hn2, hP, hNV, hle, by omega, ⟨by simp [tm_n_set, hl], by simp [hmk], by simp [tm_get_set, tm_n_set, hl, t0], by simp [tm_get_set, tm_n_set, hl, t1], by simp [tm_get_set, tm_n_set, hl, t4], by simp [tm_get_set, tm_n_set, hl, t5]⟩, by simp [tm_get_set, tm_n_set, hl]⟩ (by
    clear hr3
    rintro m A ⟨nx, b1⟩ ⟨s1, x1, u1, u8, j, hK, hB, hR, hn1, hP1, hNV1, hle1, hjm, ⟨hl, hmk, t0, t1, t4, t5⟩, t8⟩
    simp only [runC]
    obtain ⟨z, hz⟩ : ∃ z, z = nx + 1 := ⟨_, rfl⟩
    have hnx : N + 1 < nx := hK.nx
    have hKu : KL N p bs ⟨z, b1⟩ x1 s1 u1 u8 := hK.up (nx := z) (by show nx ≤ z; omega)
    have hrle := hR.le
    have hnn := hB.n
    have cp : call (.func (.func 43) #[] #[]) [.agg #[.int .i64 s1.p, u1, .int .i64 s1.w, .int .i64 s1.d, .int .i64 s1.f, .int .i64 s1.c, .int .i64 s1.m, .int .i64 s1.de, u8]] ⟨nx, b1⟩ = some (.int .i64 (P : Int), ⟨z, b1⟩) := by
      rw [hz, ← hP1]
      exact hPl nx b1 s1 u1 u8 hK.mi hK.l1.lst (by omega)
    have L0 := hK.set
    simp only at L0
    cases m with
    | zero =>
      have hj : ¬ (j : Int) < P := by omega
      have hjn : ¬ j < P := by omega
      obtain rfl : j = P := by omega
      simp [ec_skip, ec_label, ek_reg, ek_draw, ek_seq, ec_cond, ek_block, ec_loop, ec_exit, ec_ret, ec_scope, ek_nil, ek_op, opK_some, regK_some, seqK_normal, seqK_exit, seqK_ret, blockK_normal, blockK_exit, blockK_ret, evOp, vOp, hOpB, hOpU, hOp, hOpT, aAppendG_tab, aWanted, aYielded, opd, putT, closedV, aBin, intOp, sameK, mapO, joinR, hasAddr, boundOf, pushB, aAlloc, Value.cells, lookB, setB, Nat.beq_eq, tm_n_set, tm_get_set, tm_of_n, tm_of_get, tm_tr_set, tm_tr_of, cellV, putF, appR_eq, takeR_eq, dropR_eq, setR_eq, getR_eq, ↓C75, ↓C76, ↓C77, ↓C79, ↓C17, ↓C18, ↓C22, ↓C71, FA24_0, FA24_1, FA24_2, FA24_3, FA24_4, FA24_5, FA24_6, FA24_7, FA24_8, LD3, LD4, LD22, LD27, LDr, LD24, LEN22, IA22, tkc, cellAt, hl, hmk, t0, t1, t4, t5, t8, cp, L0, ↓Cplain, hj, hjn]
      exact .inr ⟨by simp, rfl, s1, x1, u1, u8, hKu, hB, hR, hn1, hP1, hNV1, hle1, by simp [tm_n_set, hl], rfl, by simp [tm_get_set, tm_n_set, hl, t0], by simp [tm_get_set, tm_n_set, hl, t1], by simp [tm_get_set, tm_n_set, hl, t4], by simp [tm_get_set, tm_n_set, hl, t5]⟩
    | succ m =>
      have hj : (j : Int) < P := by omega
      have hjn : j < P := by omega
      have hw : wrapI .i64 ((j : Int) + 1) = (j : Int) + 1 := wrapI_small (by omega) (by omega)
      have hKs := hKu.step (y := stB x1)
      have od : call (.func (.func 77) #[] #[]) [.pointer (some ⟨p, 0, none⟩), .int .i64 6] ⟨z, b1⟩ = some (.bool (oddV x1 6), ⟨z, setB b1 p (sB (stB x1))⟩) := hS.odd z b1 x1 6 (by omega) (by omega) hKu.mi hKu.src
      have L2 := hKs.set
      simp only at L2
      by_cases ho : oddV x1 6 = true
      · obtain ⟨bs2, hs, hb1, hb2, hap⟩ := hKs.app8 (by omega)
        obtain ⟨cs, hg, hgk, e, hK3⟩ := hap (j : Int)
        have L3 := hb1.trans hKs.set
        have m1 : ¬ N + 1 = z := by omega
        have m2 : ¬ N = z := by omega
        have m3 : ¬ N + 1 = z + 1 := by omega
        simp only at e L3 hK3
        simp [ec_skip, ec_label, ek_reg, ek_draw, ek_seq, ec_cond, ek_block, ec_loop, ec_exit, ec_ret, ec_scope, ek_nil, ek_op, opK_some, regK_some, seqK_normal, seqK_exit, seqK_ret, blockK_normal, blockK_exit, blockK_ret, evOp, vOp, hOpB, hOpU, hOp, hOpT, aAppendG_tab, aWanted, aYielded, opd, putT, closedV, aBin, intOp, sameK, mapO, joinR, hasAddr, boundOf, pushB, aAlloc, Value.cells, lookB, setB, Nat.beq_eq, tm_n_set, tm_get_set, tm_of_n, tm_of_get, tm_tr_set, tm_tr_of, cellV, putF, appR_eq, takeR_eq, dropR_eq, setR_eq, getR_eq, ↓C75, ↓C76, ↓C77, ↓C79, ↓C17, ↓C18, ↓C22, ↓C71, FA24_0, FA24_1, FA24_2, FA24_3, FA24_4, FA24_5, FA24_6, FA24_7, FA24_8, LD3, LD4, LD22, LD27, LDr, LD24, LEN22, IA22, tkc, cellAt, hl, hmk, t0, t1, t4, t5, t8, cp, L0, L2, L3, ↓Cplain, ↓Godd, hj, hjn, od, ho, BS22, APT22, e, ST22, m1, m2, m3, hw, partsO]
        exact .inl ⟨rfl, m, rfl, { s1 with k := s1.k + 1, h := gi cs }, stB x1, u1, _, j + 1, hK3, ⟨hB.p, hB.m, hB.c, hB.w, hB.d, hB.f, hB.de, hB.g, hB.n⟩, hR.app cs hg hgk, hn1, hP1, hNV1, hle1, by omega, ⟨by simp [tm_n_set, hl], by simp [hmk], by simp [tm_get_set, tm_n_set, hl, t0], by simp [tm_get_set, tm_n_set, hl, t1], by simp [tm_get_set, tm_n_set, hl, t4], by simp [tm_get_set, tm_n_set, hl, t5]⟩, by simp [tm_get_set, tm_n_set, hl]⟩
      · simp [ec_skip, ec_label, ek_reg, ek_draw, ek_seq, ec_cond, ek_block, ec_loop, ec_exit, ec_ret, ec_scope, ek_nil, ek_op, opK_some, regK_some, seqK_normal, seqK_exit, seqK_ret, blockK_normal, blockK_exit, blockK_ret, evOp, vOp, hOpB, hOpU, hOp, hOpT, aAppendG_tab, aWanted, aYielded, opd, putT, closedV, aBin, intOp, sameK, mapO, joinR, hasAddr, boundOf, pushB, aAlloc, Value.cells, lookB, setB, Nat.beq_eq, tm_n_set, tm_get_set, tm_of_n, tm_of_get, tm_tr_set, tm_tr_of, cellV, putF, appR_eq, takeR_eq, dropR_eq, setR_eq, getR_eq, ↓C75, ↓C76, ↓C77, ↓C79, ↓C17, ↓C18, ↓C22, ↓C71, FA24_0, FA24_1, FA24_2, FA24_3, FA24_4, FA24_5, FA24_6, FA24_7, FA24_8, LD3, LD4, LD22, LD27, LDr, LD24, LEN22, IA22, tkc, cellAt, hl, hmk, t0, t1, t4, t5, t8, cp, L0, L2, ↓Cplain, ↓Godd, hj, hjn, od, ho, hw]
        exact .inl ⟨rfl, m, rfl, s1, stB x1, u1, u8, j + 1, hKs, hB, hR.mono, hn1, hP1, hNV1, hle1, by omega, ⟨by simp [tm_n_set, hl], by simp [hmk], by simp [tm_get_set, tm_n_set, hl, t0], by simp [tm_get_set, tm_n_set, hl, t1], by simp [tm_get_set, tm_n_set, hl, t4], by simp [tm_get_set, tm_n_set, hl, t5]⟩, by simp [tm_get_set, tm_n_set, hl]⟩)
  have LS3 := hK3.set
  have LR3 := hK3.res
  have h1 := hK3.l1
  have h8 := hK3.l8
  rcases h1 with ⟨_, h⟩ | ⟨a3, cs3, rfl, g1, g2, g3, g4, g5, g6⟩
  · omega
  · rcases h8 with ⟨rfl, h8k⟩ | ⟨a8, cs8, rfl, f1, f2, f3, f4, f5, f6⟩
    · simp [ec_skip, ec_label, ek_reg, ek_draw, ek_seq, ec_cond, ek_block, ec_loop, ec_exit, ec_ret, ec_scope, ek_nil, ek_op, opK_some, regK_some, seqK_normal, seqK_exit, seqK_ret, blockK_normal, blockK_exit, blockK_ret, evOp, vOp, hOpB, hOpU, hOp, hOpT, aAppendG_tab, aWanted, aYielded, opd, putT, closedV, aBin, intOp, sameK, mapO, joinR, hasAddr, boundOf, pushB, aAlloc, Value.cells, lookB, setB, Nat.beq_eq, tm_n_set, tm_get_set, tm_of_n, tm_of_get, tm_tr_set, tm_tr_of, cellV, putF, appR_eq, takeR_eq, dropR_eq, setR_eq, getR_eq, ↓C75, ↓C76, ↓C77, ↓C79, ↓C17, ↓C18, ↓C22, ↓C71, FA24_0, FA24_1, FA24_2, FA24_3, FA24_4, FA24_5, FA24_6, FA24_7, FA24_8, LD3, LD4, LD22, LD27, LDr, LD24, LEN22, IA22, tkc, cellAt, hl, hmk, t0, t1, t4, t5, LS3, LR3, ST24, finF, takeM, resV, cleanedG, kp, gc, lookB_setB]
      exact lit_end hK3 hB3 hR3 hP3 (by omega) (by omega) _
    · simp [ec_skip, ec_label, ek_reg, ek_draw, ek_seq, ec_cond, ek_block, ec_loop, ec_exit, ec_ret, ec_scope, ek_nil, ek_op, opK_some, regK_some, seqK_normal, seqK_exit, seqK_ret, blockK_normal, blockK_exit, blockK_ret, evOp, vOp, hOpB, hOpU, hOp, hOpT, aAppendG_tab, aWanted, aYielded, opd, putT, closedV, aBin, intOp, sameK, mapO, joinR, hasAddr, boundOf, pushB, aAlloc, Value.cells, lookB, setB, Nat.beq_eq, tm_n_set, tm_get_set, tm_of_n, tm_of_get, tm_tr_set, tm_tr_of, cellV, putF, appR_eq, takeR_eq, dropR_eq, setR_eq, getR_eq, ↓C75, ↓C76, ↓C77, ↓C79, ↓C17, ↓C18, ↓C22, ↓C71, FA24_0, FA24_1, FA24_2, FA24_3, FA24_4, FA24_5, FA24_6, FA24_7, FA24_8, LD3, LD4, LD22, LD27, LDr, LD24, LEN22, IA22, tkc, cellAt, hl, hmk, t0, t1, t4, t5, LS3, LR3, ST24, finF, takeM, resV, cleanedG, kp, gc, lookB_setB]
      exact lit_end hK3 hB3 hR3 hP3 (by omega) (by omega) _


end

end Go.Proofs.Ytjginpeoblilpaa
