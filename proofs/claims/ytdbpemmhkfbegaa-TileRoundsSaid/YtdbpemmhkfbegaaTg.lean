/-
  What is proved: what Has, Contains, face, Kind, Red, Kinds and Size answer, for every set.
-/
import Derived.Test.YtdbpemmhkfbegaaTf
namespace Go.Proofs.Ytdbpemmhkfbegaa
open Go.RowKit
set_option linter.unusedSimpArgs false
set_option linter.unusedVariables false

theorem F20 : tabF Try.prog 29 = some Try.f29 := by kernel_rfl
theorem F22 : tabF Try.prog 34 = some Try.f34 := by kernel_rfl
theorem F119 : tabF Try.prog 66 = some Try.f66 := by kernel_rfl
theorem F110 : tabF Try.prog 55 = some Try.f55 := by kernel_rfl
theorem F86 : tabF Try.prog 36 = some Try.f36 := by kernel_rfl
theorem F85 : tabF Try.prog 33 = some Try.f33 := by kernel_rfl
theorem F29 : tabF Try.prog 10 = some Try.f10 := by kernel_rfl
theorem F31 : tabF Try.prog 12 = some Try.f12 := by kernel_rfl
structure SV.Small (s : SV) : Prop where
  n : s.n ≤ 3
  g : ∀ i, i < s.n → 1 ≤ s.g i ∧ s.g i ≤ 9
  w : 0 ≤ s.w ∧ s.w ≤ 4
  d : 0 ≤ s.d ∧ s.d ≤ 3
  f : 0 ≤ s.f ∧ s.f ≤ 8

theorem idxBad_all (g : Nat → Int) : ∀ (m i : Nat), ¬ 0 ≤ idxBad g m i → ∀ j, i ≤ j → j < i + m → 1 ≤ g j ∧ g j ≤ 9
  | 0, i, _, j, h1, h2 => by omega
  | m + 1, i, h, j, h1, h2 => by
    rw [idxBad] at h
    split at h
    · rename_i hb
      by_cases hj : j = i
      · subst hj
        exact btw_iff.1 hb
      · exact idxBad_all g m (i + 1) h j (by omega) (by omega)
    · exact absurd (Int.natCast_nonneg i) h

theorem firstE_step {B : Nat → Bool} {E : Nat → Int} {m i : Nat} (h : firstE B E (m + 1) i = 0) (he : E i ≠ 0) : B i = true ∧ firstE B E m (i + 1) = 0 := by
  rw [firstE] at h
  split at h
  · exact ⟨‹_›, h⟩
  · exact absurd h he

theorem small_of_err {s : SV} (h : s.err = 0) : s.Small := by
  obtain ⟨_, h⟩ := firstE_step (m := 11) (i := 0) h (by simp [ruleE])
  obtain ⟨c1, h⟩ := firstE_step (m := 10) (i := 1) h (by simp [ruleE])
  obtain ⟨c2, h⟩ := firstE_step (m := 9) (i := 2) h (by simp [ruleE])
  obtain ⟨c3, h⟩ := firstE_step (m := 8) (i := 3) h (by simp [ruleE])
  obtain ⟨c4, h⟩ := firstE_step (m := 7) (i := 4) h (by simp [ruleE])
  obtain ⟨c5, _⟩ := firstE_step (m := 6) (i := 5) h (by simp [ruleE])
  simp only [ruleB] at c1 c2 c3 c4 c5
  have b3 := btw_iff.1 c3
  have b4 := btw_iff.1 c4
  have b5 := btw_iff.1 c5
  have b1 : (s.n : Int) ≤ 3 := by simpa using c1
  refine ⟨by omega, fun i hi => ?_, b3, b4, b5⟩
  have b2 : anyBad s.g s.n = false := by simpa using c2
  have b2' : ¬ 0 ≤ idxBad s.g s.n 0 := by simpa [anyBad] using b2
  exact idxBad_all s.g s.n 0 b2' i (by omega) (by omega)

theorem plain_small {s : SV} (h : s.Small) : 0 ≤ s.plain ∧ s.plain ≤ 34 ∧ wrapI .i64 (s.w + s.d) = s.w + s.d := by
  obtain ⟨hn, hg, hw, hd, hf⟩ := h
  have e0 : wrapI .i64 (s.w + s.d) = s.w + s.d := wrapI_small (by omega) (by omega)
  refine ⟨?_, ?_, e0⟩ <;> unfold SV.plain <;> rw [e0]
  all_goals
    generalize hnn : s.n = n at hn hg
    match n, hn, hg with
    | 0, _, _ => simp only [sumG]; omega
    | 1, _, hg =>
      have a0 := hg 0 (by omega)
      simp only [sumG, Nat.zero_add, Nat.reduceAdd]
      rw [wrapI_small (by omega) (by omega)]; omega
    | 2, _, hg =>
      have a0 := hg 0 (by omega)
      have a1 := hg 1 (by omega)
      simp only [sumG, Nat.zero_add, Nat.reduceAdd]
      rw [wrapI_small (n := s.w + s.d + s.g 0) (by omega) (by omega), wrapI_small (by omega) (by omega)]; omega
    | 3, _, hg =>
      have a0 := hg 0 (by omega)
      have a1 := hg 1 (by omega)
      have a2 := hg 2 (by omega)
      simp only [sumG, Nat.zero_add, Nat.reduceAdd]
      rw [wrapI_small (n := s.w + s.d + s.g 0) (by omega) (by omega), wrapI_small (n := s.w + s.d + s.g 0 + s.g 1) (by omega) (by omega), wrapI_small (by omega) (by omega)]; omega
    | n + 4, h4, _ => exact absurd h4 (by omega)

noncomputable def SV.rsize (s : SV) : Int := if s.err = 0 then s.size else 0

noncomputable def P22c (s : SV) (r : List DR × Nat) : Prop := r.2 = 3 ∧ wheap s.bx.bs r.1 = s.bx.bs ∧ ∀ tm, tv tm all1 r.1 2 = .int .i64 s.size

set_option maxRecDepth 10000 in
set_option maxHeartbeats 8000000 in
theorem rsize_ev (call : Value → List Value → AH → Option (Value × AH)) (hc : ∀ (s : SV) (H : AH), lookB H.bs 0 = some (.ints s.g) → lookB H.bs 1 = some (.ints s.h) → call (.func (.func 30) #[] #[]) [s.val] H = some (.int .i64 s.err, H)) (hp : ∀ (s : SV) (H : AH), lookB H.bs 0 = some (.ints s.g) → lookB H.bs 1 = some (.ints s.h) → call (.func (.func 35) #[] #[]) [s.val] H = some (.int .i64 s.plain, H)) (s : SV) : ∃ H', evFn (tabT Try.prog) call 300 kpT 34 Try.f34 [s.val] s.hp = some (.int .i64 s.rsize, H') := by
  have hc' := hc s
  have hp' := hp s
  simp only [SV.val] at hc' hp'
  simp only [evFn, Try.f34, SV.val, SV.hp, SV.rsize]
  by_cases c1 : s.err = 0
  · simp [ec_skip, ec_label, ek_reg, ek_draw, ek_seq, ec_cond, ek_block, ec_loop, ec_exit, ec_ret, ec_scope, ek_nil, ek_op, opK_some, regK_some, seqK_normal, seqK_exit, seqK_ret, blockK_normal, blockK_exit, blockK_ret, evOp, vOp, hOpB, hOpU, hOp, hOpT, aAppendG_tab, aWanted, aYielded, opd, putT, closedV, aBin, intOp, sameK, mapO, joinR, hasAddr, boundOf, pushB, aAlloc, Value.cells, lookB, setB, Nat.beq_eq, tm_n_set, tm_get_set, tm_of_n, tm_of_get, tm_tr_set, tm_tr_of, cellV, putF, appR_eq, takeR_eq, dropR_eq, setR_eq, getR_eq, ↓C75, ↓C76, ↓C77, ↓C79, ↓C17, ↓C18, ↓C22, ↓C71, FA24_0, FA24_1, FA24_2, FA24_3, FA24_4, FA24_5, FA24_6, FA24_7, FA24_8, LD3, LD4, LD22, LD27, LDr, LD24, LEN22, IA22, tkc, cellAt, finF, takeM, resV, hc', c1]
    generalize hX : evDrawX _ _ _ _ _ = X
    obtain ⟨⟨rs, nx⟩, rfl, hnx, hwh, htv⟩ := evDraw_ex (Pq := P22c s) hX (by kernel_rfl) (by simp [decrK]) (by
      clear hX
      generalize befs _ = M
      simp [mapO, drRun, drOp, dr3, looks, guardT, tmpsOf, Op.operands, Call.operands, wantedR, gOf, finT, natMem, isNil, writesF, evOp, vOp, hOpB, hOpU, hOp, hOpT, aAppendG_tab, opd, closedV, aBin, intOp, sameK, opdO, boundOf, undef, lookB, Nat.beq_eq, tm_n_set, tm_get_set, tm_of_n, tm_of_get, tm_tr_set, tm_tr_of, b02, b12, b32, ↓G75, W75, ↓G76, W76, ↓G77, W77, ↓G79, W79, ↓G17, W17, ↓G18, W18, ↓G22, W22, ↓G71, W71, tv, all1, roB, roK, news, newOnes, decr, tkc, cellAt, FA24_0, FA24_4, FA24_5, FA24_8, LD3, LD22, LD24, LDr, IA22, getT, hp']
      exact ⟨by simp [dynOK, b02, b12, b32], rfl, by simp [SV.bx, wheap, news, b02, b12, b32], fun tm => by simp [tv, all1, SV.size]⟩)
    simp [ec_skip, ec_label, ek_reg, ek_draw, ek_seq, ec_cond, ek_block, ec_loop, ec_exit, ec_ret, ec_scope, ek_nil, ek_op, opK_some, regK_some, seqK_normal, seqK_exit, seqK_ret, blockK_normal, blockK_exit, blockK_ret, evOp, vOp, hOpB, hOpU, hOp, hOpT, aAppendG_tab, aWanted, aYielded, opd, putT, closedV, aBin, intOp, sameK, mapO, joinR, hasAddr, boundOf, pushB, aAlloc, Value.cells, lookB, setB, Nat.beq_eq, tm_n_set, tm_get_set, tm_of_n, tm_of_get, tm_tr_set, tm_tr_of, cellV, putF, appR_eq, takeR_eq, dropR_eq, setR_eq, getR_eq, ↓C75, ↓C76, ↓C77, ↓C79, ↓C17, ↓C18, ↓C22, ↓C71, FA24_0, FA24_1, FA24_2, FA24_3, FA24_4, FA24_5, FA24_6, FA24_7, FA24_8, LD3, LD4, LD22, LD27, LDr, LD24, LEN22, IA22, tkc, cellAt, finF, takeM, resV, tm_fin, fin_n, htv]
  · have c1' : (s.err != 0) = true := by simpa using c1
    simp [ec_skip, ec_label, ek_reg, ek_draw, ek_seq, ec_cond, ek_block, ec_loop, ec_exit, ec_ret, ec_scope, ek_nil, ek_op, opK_some, regK_some, seqK_normal, seqK_exit, seqK_ret, blockK_normal, blockK_exit, blockK_ret, evOp, vOp, hOpB, hOpU, hOp, hOpT, aAppendG_tab, aWanted, aYielded, opd, putT, closedV, aBin, intOp, sameK, mapO, joinR, hasAddr, boundOf, pushB, aAlloc, Value.cells, lookB, setB, Nat.beq_eq, tm_n_set, tm_get_set, tm_of_n, tm_of_get, tm_tr_set, tm_tr_of, cellV, putF, appR_eq, takeR_eq, dropR_eq, setR_eq, getR_eq, ↓C75, ↓C76, ↓C77, ↓C79, ↓C17, ↓C18, ↓C22, ↓C71, FA24_0, FA24_1, FA24_2, FA24_3, FA24_4, FA24_5, FA24_6, FA24_7, FA24_8, LD3, LD4, LD22, LD27, LDr, LD24, LEN22, IA22, tkc, cellAt, finF, takeM, resV, hc', c1, c1']

noncomputable def SV.kinds (s : SV) : Int := if s.err = 0 then s.plain else 0

set_option maxRecDepth 10000 in
set_option maxHeartbeats 8000000 in
theorem rkinds_ev (call : Value → List Value → AH → Option (Value × AH)) (hc : ∀ (s : SV) (H : AH), lookB H.bs 0 = some (.ints s.g) → lookB H.bs 1 = some (.ints s.h) → call (.func (.func 30) #[] #[]) [s.val] H = some (.int .i64 s.err, H)) (hp : ∀ (s : SV) (H : AH), lookB H.bs 0 = some (.ints s.g) → lookB H.bs 1 = some (.ints s.h) → call (.func (.func 35) #[] #[]) [s.val] H = some (.int .i64 s.plain, H)) (s : SV) : ∃ H', evFn (tabT Try.prog) call 300 kpT 29 Try.f29 [s.val] s.hp = some (.int .i64 s.kinds, H') := by
  have hc' := hc s
  have hp' := hp s
  simp only [SV.val] at hc' hp'
  simp only [evFn, Try.f29, SV.val, SV.hp, SV.kinds]
  by_cases c1 : s.err = 0
  · simp [ec_skip, ec_label, ek_reg, ek_draw, ek_seq, ec_cond, ek_block, ec_loop, ec_exit, ec_ret, ec_scope, ek_nil, ek_op, opK_some, regK_some, seqK_normal, seqK_exit, seqK_ret, blockK_normal, blockK_exit, blockK_ret, evOp, vOp, hOpB, hOpU, hOp, hOpT, aAppendG_tab, aWanted, aYielded, opd, putT, closedV, aBin, intOp, sameK, mapO, joinR, hasAddr, boundOf, pushB, aAlloc, Value.cells, lookB, setB, Nat.beq_eq, tm_n_set, tm_get_set, tm_of_n, tm_of_get, tm_tr_set, tm_tr_of, cellV, putF, appR_eq, takeR_eq, dropR_eq, setR_eq, getR_eq, ↓C75, ↓C76, ↓C77, ↓C79, ↓C17, ↓C18, ↓C22, ↓C71, FA24_0, FA24_1, FA24_2, FA24_3, FA24_4, FA24_5, FA24_6, FA24_7, FA24_8, LD3, LD4, LD22, LD27, LDr, LD24, LEN22, IA22, tkc, cellAt, finF, takeM, resV, hc', hp', c1]
  · have c1' : (s.err != 0) = true := by simpa using c1
    simp [ec_skip, ec_label, ek_reg, ek_draw, ek_seq, ec_cond, ek_block, ec_loop, ec_exit, ec_ret, ec_scope, ek_nil, ek_op, opK_some, regK_some, seqK_normal, seqK_exit, seqK_ret, blockK_normal, blockK_exit, blockK_ret, evOp, vOp, hOpB, hOpU, hOp, hOpT, aAppendG_tab, aWanted, aYielded, opd, putT, closedV, aBin, intOp, sameK, mapO, joinR, hasAddr, boundOf, pushB, aAlloc, Value.cells, lookB, setB, Nat.beq_eq, tm_n_set, tm_get_set, tm_of_n, tm_of_get, tm_tr_set, tm_tr_of, cellV, putF, appR_eq, takeR_eq, dropR_eq, setR_eq, getR_eq, ↓C75, ↓C76, ↓C77, ↓C79, ↓C17, ↓C18, ↓C22, ↓C71, FA24_0, FA24_1, FA24_2, FA24_3, FA24_4, FA24_5, FA24_6, FA24_7, FA24_8, LD3, LD4, LD22, LD27, LDr, LD24, LEN22, IA22, tkc, cellAt, finF, takeM, resV, hc', c1, c1']

/-- Where a number first lies in a list. -/
noncomputable def idxOfG (g : Nat → Int) (x : Int) : Nat → Nat → Int
  | 0, _ => -1
  | m + 1, i => if x = g i then i else idxOfG g x m (i + 1)

noncomputable def I119 (g : Nat → Int) (n : Nat) (x : Int) (m : Nat) (A : AF) (H : AH) : Prop := ∃ (i : Nat), i + m = n ∧ idxOfG g x m i = idxOfG g x n 0 ∧ A.tm.n = 19 ∧ A.marks = [] ∧ A.tm.get 8 = .int .i64 (i : Int) ∧ A.tm.get 7 = .int .i64 n ∧ A.tm.get 0 = .slice (some ⟨0, 0, some 1⟩) n 0 ∧ A.tm.get 1 = .int .i64 x ∧ H = hp1 g
noncomputable def Q119 (g : Nat → Int) (n : Nat) (x : Int) (y : AX) (A' : AF) (_ : AH) : Prop := A'.tm.n = 19 ∧ A'.marks = [] ∧ ((y = .exit 0 ∧ idxOfG g x n 0 = -1) ∨ (y = .ret ∧ A'.tm.get 4 = .int .i64 (idxOfG g x n 0)))

set_option maxRecDepth 10000 in
set_option maxHeartbeats 8000000 in
theorem index_ev (call : Value → List Value → AH → Option (Value × AH)) (g : Nat → Int) (n : Nat) (x : Int) (hk : n ≤ 200) : ∃ H', evFn (tabT Try.prog) call 300 kpT 66 Try.f66 [sl1 n, .int .i64 x] (hp1 g) = some (.int .i64 (idxOfG g x n 0), H') := by
  simp only [evFn, Try.f66, hp1, sl1]
  simp [ec_skip, ec_label, ek_reg, ek_draw, ek_seq, ec_cond, ek_block, ec_loop, ec_exit, ec_ret, ec_scope, ek_nil, ek_op, opK_some, regK_some, seqK_normal, seqK_exit, seqK_ret, blockK_normal, blockK_exit, blockK_ret, evOp, vOp, hOpB, hOpU, hOp, hOpT, aAppendG_tab, aWanted, aYielded, opd, putT, closedV, aBin, intOp, sameK, mapO, joinR, hasAddr, boundOf, pushB, aAlloc, Value.cells, lookB, setB, Nat.beq_eq, tm_n_set, tm_get_set, tm_of_n, tm_of_get, tm_tr_set, tm_tr_of, cellV, putF, appR_eq, takeR_eq, dropR_eq, setR_eq, getR_eq, ↓C75, ↓C76, ↓C77, ↓C79, ↓C17, ↓C18, ↓C22, ↓C71, FA24_0, FA24_1, FA24_2, FA24_3, FA24_4, FA24_5, FA24_6, FA24_7, FA24_8, LD3, LD4, LD22, LD27, LDr, LD24, LEN22, IA22, tkc, cellAt]
  generalize hr : evLoop _ _ _ _ = r
  obtain ⟨y, A', H', rfl, hl, hmk, hx⟩ := loop_go (Q := Q119 g n x) hr (I119 g n x) n (by omega) ⟨0, by omega, rfl, rfl, rfl, rfl, rfl, rfl, rfl, rfl⟩ (by
      clear hr
      rintro m A H ⟨i, him, hres, hl, hmk, h8, h7, h0, h1, rfl⟩
      simp only [runC]
      cases m with
      | zero =>
        have hi : ¬ i < n := by omega
        rw [idxOfG] at hres
        simp [ec_skip, ec_label, ek_reg, ek_draw, ek_seq, ec_cond, ek_block, ec_loop, ec_exit, ec_ret, ec_scope, ek_nil, ek_op, opK_some, regK_some, seqK_normal, seqK_exit, seqK_ret, blockK_normal, blockK_exit, blockK_ret, evOp, vOp, hOpB, hOpU, hOp, hOpT, aAppendG_tab, aWanted, aYielded, opd, putT, closedV, aBin, intOp, sameK, mapO, joinR, hasAddr, boundOf, pushB, aAlloc, Value.cells, lookB, setB, Nat.beq_eq, tm_n_set, tm_get_set, tm_of_n, tm_of_get, tm_tr_set, tm_tr_of, cellV, putF, appR_eq, takeR_eq, dropR_eq, setR_eq, getR_eq, ↓C75, ↓C76, ↓C77, ↓C79, ↓C17, ↓C18, ↓C22, ↓C71, FA24_0, FA24_1, FA24_2, FA24_3, FA24_4, FA24_5, FA24_6, FA24_7, FA24_8, LD3, LD4, LD22, LD27, LDr, LD24, LEN22, IA22, tkc, cellAt, hp1, hl, hmk, h8, h7, h0, h1, hi]
        exact .inr ⟨by simp, by simp [tm_n_set, hl], rfl, .inl ⟨rfl, hres.symm⟩⟩
      | succ m =>
        have hi : i < n := by omega
        have hw : wrapI .i64 ((i : Int) + 1) = ((i + 1 : Nat) : Int) := by rw [wrapI_small (by omega) (by omega)]; rfl
        rw [idxOfG] at hres
        by_cases c1 : x = g i
        · have c1' : (x == g i) = true := by simpa using c1
          simp only [c1, if_true] at hres
          simp [ec_skip, ec_label, ek_reg, ek_draw, ek_seq, ec_cond, ek_block, ec_loop, ec_exit, ec_ret, ec_scope, ek_nil, ek_op, opK_some, regK_some, seqK_normal, seqK_exit, seqK_ret, blockK_normal, blockK_exit, blockK_ret, evOp, vOp, hOpB, hOpU, hOp, hOpT, aAppendG_tab, aWanted, aYielded, opd, putT, closedV, aBin, intOp, sameK, mapO, joinR, hasAddr, boundOf, pushB, aAlloc, Value.cells, lookB, setB, Nat.beq_eq, tm_n_set, tm_get_set, tm_of_n, tm_of_get, tm_tr_set, tm_tr_of, cellV, putF, appR_eq, takeR_eq, dropR_eq, setR_eq, getR_eq, ↓C75, ↓C76, ↓C77, ↓C79, ↓C17, ↓C18, ↓C22, ↓C71, FA24_0, FA24_1, FA24_2, FA24_3, FA24_4, FA24_5, FA24_6, FA24_7, FA24_8, LD3, LD4, LD22, LD27, LDr, LD24, LEN22, IA22, tkc, cellAt, hp1, hl, hmk, h8, h7, h0, h1, hi, c1']
          exact .inr ⟨by simp, by simp [tm_n_set, hl], rfl, .inr ⟨rfl, by simp [tm_get_set, tm_n_set, hl, c1, hres]⟩⟩
        · have c1' : (x == g i) = false := by simpa using c1
          simp only [c1, if_false] at hres
          simp [ec_skip, ec_label, ek_reg, ek_draw, ek_seq, ec_cond, ek_block, ec_loop, ec_exit, ec_ret, ec_scope, ek_nil, ek_op, opK_some, regK_some, seqK_normal, seqK_exit, seqK_ret, blockK_normal, blockK_exit, blockK_ret, evOp, vOp, hOpB, hOpU, hOp, hOpT, aAppendG_tab, aWanted, aYielded, opd, putT, closedV, aBin, intOp, sameK, mapO, joinR, hasAddr, boundOf, pushB, aAlloc, Value.cells, lookB, setB, Nat.beq_eq, tm_n_set, tm_get_set, tm_of_n, tm_of_get, tm_tr_set, tm_tr_of, cellV, putF, appR_eq, takeR_eq, dropR_eq, setR_eq, getR_eq, ↓C75, ↓C76, ↓C77, ↓C79, ↓C17, ↓C18, ↓C22, ↓C71, FA24_0, FA24_1, FA24_2, FA24_3, FA24_4, FA24_5, FA24_6, FA24_7, FA24_8, LD3, LD4, LD22, LD27, LDr, LD24, LEN22, IA22, tkc, cellAt, hp1, hl, hmk, h8, h7, h0, h1, hi, c1']
          refine .inl ⟨rfl, m, rfl, i + 1, by omega, hres, ?_⟩
          simp [hp1, tm_get_set, tm_n_set, hl, h8, h7, h0, h1, hw])
  rcases hx with ⟨rfl, hx⟩ | ⟨rfl, hx⟩
  · simp [ec_skip, ec_label, ek_reg, ek_draw, ek_seq, ec_cond, ek_block, ec_loop, ec_exit, ec_ret, ec_scope, ek_nil, ek_op, opK_some, regK_some, seqK_normal, seqK_exit, seqK_ret, blockK_normal, blockK_exit, blockK_ret, evOp, vOp, hOpB, hOpU, hOp, hOpT, aAppendG_tab, aWanted, aYielded, opd, putT, closedV, aBin, intOp, sameK, mapO, joinR, hasAddr, boundOf, pushB, aAlloc, Value.cells, lookB, setB, Nat.beq_eq, tm_n_set, tm_get_set, tm_of_n, tm_of_get, tm_tr_set, tm_tr_of, cellV, putF, appR_eq, takeR_eq, dropR_eq, setR_eq, getR_eq, ↓C75, ↓C76, ↓C77, ↓C79, ↓C17, ↓C18, ↓C22, ↓C71, FA24_0, FA24_1, FA24_2, FA24_3, FA24_4, FA24_5, FA24_6, FA24_7, FA24_8, LD3, LD4, LD22, LD27, LDr, LD24, LEN22, IA22, tkc, cellAt, finF, takeM, resV, hl, hmk, hx]
  · simp [ec_skip, ec_label, ek_reg, ek_draw, ek_seq, ec_cond, ek_block, ec_loop, ec_exit, ec_ret, ec_scope, ek_nil, ek_op, opK_some, regK_some, seqK_normal, seqK_exit, seqK_ret, blockK_normal, blockK_exit, blockK_ret, evOp, vOp, hOpB, hOpU, hOp, hOpT, aAppendG_tab, aWanted, aYielded, opd, putT, closedV, aBin, intOp, sameK, mapO, joinR, hasAddr, boundOf, pushB, aAlloc, Value.cells, lookB, setB, Nat.beq_eq, tm_n_set, tm_get_set, tm_of_n, tm_of_get, tm_tr_set, tm_tr_of, cellV, putF, appR_eq, takeR_eq, dropR_eq, setR_eq, getR_eq, ↓C75, ↓C76, ↓C77, ↓C79, ↓C17, ↓C18, ↓C22, ↓C71, FA24_0, FA24_1, FA24_2, FA24_3, FA24_4, FA24_5, FA24_6, FA24_7, FA24_8, LD3, LD4, LD22, LD27, LDr, LD24, LEN22, IA22, tkc, cellAt, finF, takeM, resV, hl, hmk, hx]

noncomputable def hasG (g : Nat → Int) (n : Nat) (x : Int) : Bool := decide (0 ≤ idxOfG g x n 0)

set_option maxRecDepth 10000 in
set_option maxHeartbeats 8000000 in
theorem contains_ev (call : Value → List Value → AH → Option (Value × AH)) (hb : ∀ (g : Nat → Int) (n : Nat) (x : Int) (H : AH), lookB H.bs 0 = some (.ints g) → call (.func (.func 66) #[] #[]) [sl1 n, .int .i64 x] H = some (.int .i64 (idxOfG g x n 0), H)) (g : Nat → Int) (n : Nat) (x : Int) : ∃ H', evFn (tabT Try.prog) call 300 kpT 55 Try.f55 [sl1 n, .int .i64 x] (hp1 g) = some (.bool (hasG g n x), H') := by
  have hb' := hb g n x
  simp only [sl1] at hb'
  simp only [evFn, Try.f55, hp1, sl1, hasG]
  simp [ec_skip, ec_label, ek_reg, ek_draw, ek_seq, ec_cond, ek_block, ec_loop, ec_exit, ec_ret, ec_scope, ek_nil, ek_op, opK_some, regK_some, seqK_normal, seqK_exit, seqK_ret, blockK_normal, blockK_exit, blockK_ret, evOp, vOp, hOpB, hOpU, hOp, hOpT, aAppendG_tab, aWanted, aYielded, opd, putT, closedV, aBin, intOp, sameK, mapO, joinR, hasAddr, boundOf, pushB, aAlloc, Value.cells, lookB, setB, Nat.beq_eq, tm_n_set, tm_get_set, tm_of_n, tm_of_get, tm_tr_set, tm_tr_of, cellV, putF, appR_eq, takeR_eq, dropR_eq, setR_eq, getR_eq, ↓C75, ↓C76, ↓C77, ↓C79, ↓C17, ↓C18, ↓C22, ↓C71, FA24_0, FA24_1, FA24_2, FA24_3, FA24_4, FA24_5, FA24_6, FA24_7, FA24_8, LD3, LD4, LD22, LD27, LDr, LD24, LEN22, IA22, tkc, cellAt, finF, takeM, resV, hb']

theorem idxOfG_nat (g : Nat → Int) (x : Int) : ∀ m i, idxOfG g x m i = -1 ∨ 0 ≤ idxOfG g x m i
  | 0, _ => .inl rfl
  | m + 1, i => by
    rw [idxOfG]
    split
    · exact .inr (by omega)
    · exact idxOfG_nat g x m (i + 1)

noncomputable def I86 (g : Nat → Int) (n : Nat) (x : Int) (m : Nat) (A : AF) (H : AH) : Prop := ∃ (i : Nat), i + m = n ∧ idxOfG g x m i = idxOfG g x n 0 ∧ A.tm.n = 18 ∧ A.marks = [] ∧ A.tm.get 5 = .int .i64 (i : Int) ∧ A.tm.get 0 = .slice (some ⟨0, 0, some 1⟩) n 0 ∧ A.tm.get 1 = .int .i64 x ∧ H = hp1 g
noncomputable def Q86 (g : Nat → Int) (n : Nat) (x : Int) (y : AX) (A' : AF) (_ : AH) : Prop := A'.tm.n = 18 ∧ A'.marks = [] ∧ ((y = .exit 0 ∧ hasG g n x = false) ∨ (y = .ret ∧ hasG g n x = true ∧ A'.tm.get 4 = .bool true))

set_option maxRecDepth 10000 in
set_option maxHeartbeats 8000000 in
theorem has_ev (call : Value → List Value → AH → Option (Value × AH)) (g : Nat → Int) (n : Nat) (x : Int) (hk : n ≤ 200) : ∃ H', evFn (tabT Try.prog) call 300 kpT 36 Try.f36 [sl1 n, .int .i64 x] (hp1 g) = some (.bool (hasG g n x), H') := by
  simp only [evFn, Try.f36, hp1, sl1]
  simp [ec_skip, ec_label, ek_reg, ek_draw, ek_seq, ec_cond, ek_block, ec_loop, ec_exit, ec_ret, ec_scope, ek_nil, ek_op, opK_some, regK_some, seqK_normal, seqK_exit, seqK_ret, blockK_normal, blockK_exit, blockK_ret, evOp, vOp, hOpB, hOpU, hOp, hOpT, aAppendG_tab, aWanted, aYielded, opd, putT, closedV, aBin, intOp, sameK, mapO, joinR, hasAddr, boundOf, pushB, aAlloc, Value.cells, lookB, setB, Nat.beq_eq, tm_n_set, tm_get_set, tm_of_n, tm_of_get, tm_tr_set, tm_tr_of, cellV, putF, appR_eq, takeR_eq, dropR_eq, setR_eq, getR_eq, ↓C75, ↓C76, ↓C77, ↓C79, ↓C17, ↓C18, ↓C22, ↓C71, FA24_0, FA24_1, FA24_2, FA24_3, FA24_4, FA24_5, FA24_6, FA24_7, FA24_8, LD3, LD4, LD22, LD27, LDr, LD24, LEN22, IA22, tkc, cellAt]
  generalize hr : evLoop _ _ _ _ = r
  obtain ⟨y, A', H', rfl, hl, hmk, hx⟩ := loop_go (Q := Q86 g n x) hr (I86 g n x) n (by omega) ⟨0, by omega, rfl, rfl, rfl, rfl, rfl, rfl, rfl⟩ (by
      clear hr
      rintro m A H ⟨i, him, hres, hl, hmk, h5, h0, h1, rfl⟩
      simp only [runC]
      cases m with
      | zero =>
        have hi : ¬ i < n := by omega
        rw [idxOfG] at hres
        simp [ec_skip, ec_label, ek_reg, ek_draw, ek_seq, ec_cond, ek_block, ec_loop, ec_exit, ec_ret, ec_scope, ek_nil, ek_op, opK_some, regK_some, seqK_normal, seqK_exit, seqK_ret, blockK_normal, blockK_exit, blockK_ret, evOp, vOp, hOpB, hOpU, hOp, hOpT, aAppendG_tab, aWanted, aYielded, opd, putT, closedV, aBin, intOp, sameK, mapO, joinR, hasAddr, boundOf, pushB, aAlloc, Value.cells, lookB, setB, Nat.beq_eq, tm_n_set, tm_get_set, tm_of_n, tm_of_get, tm_tr_set, tm_tr_of, cellV, putF, appR_eq, takeR_eq, dropR_eq, setR_eq, getR_eq, ↓C75, ↓C76, ↓C77, ↓C79, ↓C17, ↓C18, ↓C22, ↓C71, FA24_0, FA24_1, FA24_2, FA24_3, FA24_4, FA24_5, FA24_6, FA24_7, FA24_8, LD3, LD4, LD22, LD27, LDr, LD24, LEN22, IA22, tkc, cellAt, hp1, hl, hmk, h5, h0, h1, hi]
        exact .inr ⟨by simp, by simp [tm_n_set, hl], rfl, .inl ⟨rfl, by simp [hasG, ← hres]⟩⟩
      | succ m =>
        have hi : i < n := by omega
        have hw : wrapI .i64 ((i : Int) + 1) = ((i + 1 : Nat) : Int) := by rw [wrapI_small (by omega) (by omega)]; rfl
        rw [idxOfG] at hres
        by_cases c1 : x = g i
        · have c1' : (g i == x) = true := by simpa using c1.symm
          rw [if_pos c1] at hres
          simp [ec_skip, ec_label, ek_reg, ek_draw, ek_seq, ec_cond, ek_block, ec_loop, ec_exit, ec_ret, ec_scope, ek_nil, ek_op, opK_some, regK_some, seqK_normal, seqK_exit, seqK_ret, blockK_normal, blockK_exit, blockK_ret, evOp, vOp, hOpB, hOpU, hOp, hOpT, aAppendG_tab, aWanted, aYielded, opd, putT, closedV, aBin, intOp, sameK, mapO, joinR, hasAddr, boundOf, pushB, aAlloc, Value.cells, lookB, setB, Nat.beq_eq, tm_n_set, tm_get_set, tm_of_n, tm_of_get, tm_tr_set, tm_tr_of, cellV, putF, appR_eq, takeR_eq, dropR_eq, setR_eq, getR_eq, ↓C75, ↓C76, ↓C77, ↓C79, ↓C17, ↓C18, ↓C22, ↓C71, FA24_0, FA24_1, FA24_2, FA24_3, FA24_4, FA24_5, FA24_6, FA24_7, FA24_8, LD3, LD4, LD22, LD27, LDr, LD24, LEN22, IA22, tkc, cellAt, hp1, hl, hmk, h5, h0, h1, hi, c1']
          exact .inr ⟨by simp, by simp [tm_n_set, hl], rfl, .inr ⟨rfl, by simp [hasG, ← hres], by simp [tm_get_set, tm_n_set, hl]⟩⟩
        · have c1' : (g i == x) = false := by simpa using fun e => c1 (Eq.symm e)
          rw [if_neg c1] at hres
          simp [ec_skip, ec_label, ek_reg, ek_draw, ek_seq, ec_cond, ek_block, ec_loop, ec_exit, ec_ret, ec_scope, ek_nil, ek_op, opK_some, regK_some, seqK_normal, seqK_exit, seqK_ret, blockK_normal, blockK_exit, blockK_ret, evOp, vOp, hOpB, hOpU, hOp, hOpT, aAppendG_tab, aWanted, aYielded, opd, putT, closedV, aBin, intOp, sameK, mapO, joinR, hasAddr, boundOf, pushB, aAlloc, Value.cells, lookB, setB, Nat.beq_eq, tm_n_set, tm_get_set, tm_of_n, tm_of_get, tm_tr_set, tm_tr_of, cellV, putF, appR_eq, takeR_eq, dropR_eq, setR_eq, getR_eq, ↓C75, ↓C76, ↓C77, ↓C79, ↓C17, ↓C18, ↓C22, ↓C71, FA24_0, FA24_1, FA24_2, FA24_3, FA24_4, FA24_5, FA24_6, FA24_7, FA24_8, LD3, LD4, LD22, LD27, LDr, LD24, LEN22, IA22, tkc, cellAt, hp1, hl, hmk, h5, h0, h1, hi, c1']
          refine .inl ⟨rfl, m, rfl, i + 1, by omega, hres, ?_⟩
          simp [hp1, tm_get_set, tm_n_set, hl, h5, h0, h1, hw])
  rcases hx with ⟨rfl, hx⟩ | ⟨rfl, hx, h4⟩
  · simp [ec_skip, ec_label, ek_reg, ek_draw, ek_seq, ec_cond, ek_block, ec_loop, ec_exit, ec_ret, ec_scope, ek_nil, ek_op, opK_some, regK_some, seqK_normal, seqK_exit, seqK_ret, blockK_normal, blockK_exit, blockK_ret, evOp, vOp, hOpB, hOpU, hOp, hOpT, aAppendG_tab, aWanted, aYielded, opd, putT, closedV, aBin, intOp, sameK, mapO, joinR, hasAddr, boundOf, pushB, aAlloc, Value.cells, lookB, setB, Nat.beq_eq, tm_n_set, tm_get_set, tm_of_n, tm_of_get, tm_tr_set, tm_tr_of, cellV, putF, appR_eq, takeR_eq, dropR_eq, setR_eq, getR_eq, ↓C75, ↓C76, ↓C77, ↓C79, ↓C17, ↓C18, ↓C22, ↓C71, FA24_0, FA24_1, FA24_2, FA24_3, FA24_4, FA24_5, FA24_6, FA24_7, FA24_8, LD3, LD4, LD22, LD27, LDr, LD24, LEN22, IA22, tkc, cellAt, finF, takeM, resV, hl, hmk, hx]
  · simp [ec_skip, ec_label, ek_reg, ek_draw, ek_seq, ec_cond, ek_block, ec_loop, ec_exit, ec_ret, ec_scope, ek_nil, ek_op, opK_some, regK_some, seqK_normal, seqK_exit, seqK_ret, blockK_normal, blockK_exit, blockK_ret, evOp, vOp, hOpB, hOpU, hOp, hOpT, aAppendG_tab, aWanted, aYielded, opd, putT, closedV, aBin, intOp, sameK, mapO, joinR, hasAddr, boundOf, pushB, aAlloc, Value.cells, lookB, setB, Nat.beq_eq, tm_n_set, tm_get_set, tm_of_n, tm_of_get, tm_tr_set, tm_tr_of, cellV, putF, appR_eq, takeR_eq, dropR_eq, setR_eq, getR_eq, ↓C75, ↓C76, ↓C77, ↓C79, ↓C17, ↓C18, ↓C22, ↓C71, FA24_0, FA24_1, FA24_2, FA24_3, FA24_4, FA24_5, FA24_6, FA24_7, FA24_8, LD3, LD4, LD22, LD27, LDr, LD24, LEN22, IA22, tkc, cellAt, finF, takeM, resV, hl, hmk, hx, h4]

theorem LD84 (H : AH) (i off : Nat) : aLoad (tabT Try.prog) H 50 (.pointer (some ⟨i, off, none⟩)) = match lookB H.bs i with | some (.cells _ cs) => (takeCells cs off 2).map (fun l => .agg l.toArray) | _ => none := lda (by kernel_rfl) H i off
theorem ST84 (H : AH) (i off : Nat) (v : Value) : aStore (tabT Try.prog) H 50 (.pointer (some ⟨i, off, none⟩)) v = match lookB H.bs i with
    | some (.cells false cs) => if Nat.beq v.cells.toList.length 2 && Nat.ble (off + v.cells.toList.length) cs.length && v.cells.toList.all cellV then some { H with bs := setB H.bs i (.cells false (putF cs off v.cells.toList)) } else none
    | _ => none := sti (by kernel_rfl) H i off v
theorem AL84 {call : Value → List Value → AH → Option (Value × AH)} {g : Operand → Option Value} {H : AH} {d : Option Tmp} {t : TypeId} {p : String} {a : Array Edge} {gd : Option (Nat × Bool)} : evOp (tabT Try.prog) call ⟨d, .alloc 50, t, p, a, gd⟩ g H = some (.pointer (some ⟨H.next, 0, none⟩), ⟨H.next + 1, (H.next, .cells false [.int .i64 0, .bool false]) :: H.bs⟩) :=
  evOp_evO.trans (eo_alloc (cs := [.int .i64 0, .bool false]) (by kernel_rfl))
theorem BD84 (a : Int) (b : Bool) : aBuild (tabT Try.prog) 50 [(0, .int .i64 a), (1, .bool b)] = some (.agg #[.int .i64 a, .bool b]) := by kernel_rfl
theorem BD84k (a : Int) : aBuild (tabT Try.prog) 50 [(0, .int .i64 a)] = some (.agg #[.int .i64 a, .bool false]) := by kernel_rfl
theorem FD84_0 (a : Int) (b : Bool) : aField (tabT Try.prog) 50 (.agg #[.int .i64 a, .bool b]) 0 = some (.int .i64 a) := by kernel_rfl
theorem FD84_1 (a : Int) (b : Bool) : aField (tabT Try.prog) 50 (.agg #[.int .i64 a, .bool b]) 1 = some (.bool b) := by kernel_rfl

/-- The number of the face of a tile, and whether it is red. -/
noncomputable def SV.faceK (s : SV) (t : Int) : Int := if s.plain * s.c ≤ t then s.plain + (t - s.plain * s.c) else t.tdiv s.c
noncomputable def SV.faceR (s : SV) (t : Int) : Bool := !decide (s.plain * s.c ≤ t) && (decide (t.tmod s.c = 0) && hasG s.h s.k (t.tdiv s.c))
noncomputable def SV.inB (s : SV) (t : Int) : Bool := decide (0 ≤ t) && decide (t < s.rsize)
noncomputable def SV.kindOf (s : SV) (t : Int) : Int := if s.inB t then s.faceK t else -1
noncomputable def SV.redOf (s : SV) (t : Int) : Bool := s.inB t && s.faceR t
noncomputable def faceV (k : Int) (r : Bool) : Value := .agg #[.int .i64 k, .bool r]

structure SV.Tile (s : SV) (t : Int) : Prop where
  c : 1 ≤ s.c ∧ s.c ≤ 4
  p : 0 ≤ s.plain ∧ s.plain ≤ 34
  a : 0 ≤ s.plain * s.c ∧ s.plain * s.c ≤ 136
  z : s.size = s.plain * s.c + s.f ∧ 0 ≤ s.f ∧ s.f ≤ 8
  t : 0 ≤ t ∧ t < s.size

theorem size_bounds {s : SV} (h : s.err = 0) : (1 ≤ s.c ∧ s.c ≤ 4) ∧ (0 ≤ s.plain ∧ s.plain ≤ 34) ∧ (0 ≤ s.plain * s.c ∧ s.plain * s.c ≤ 136) ∧ (s.size = s.plain * s.c + s.f ∧ 0 ≤ s.f ∧ s.f ≤ 8) := by
  have hs := small_of_err h
  obtain ⟨p0, p1, _⟩ := plain_small hs
  have hf := hs.f
  have hc : 1 ≤ s.c ∧ s.c ≤ 4 := by
    obtain ⟨_, h⟩ := firstE_step (m := 11) (i := 0) h (by simp [ruleE])
    obtain ⟨_, h⟩ := firstE_step (m := 10) (i := 1) h (by simp [ruleE])
    obtain ⟨_, h⟩ := firstE_step (m := 9) (i := 2) h (by simp [ruleE])
    obtain ⟨_, h⟩ := firstE_step (m := 8) (i := 3) h (by simp [ruleE])
    obtain ⟨_, h⟩ := firstE_step (m := 7) (i := 4) h (by simp [ruleE])
    obtain ⟨_, h⟩ := firstE_step (m := 6) (i := 5) h (by simp [ruleE])
    obtain ⟨c6, _⟩ := firstE_step (m := 5) (i := 6) h (by simp [ruleE])
    simp only [ruleB] at c6
    exact btw_iff.1 c6
  have ha : 0 ≤ s.plain * s.c ∧ s.plain * s.c ≤ 136 := by
    rcases (by omega : s.c = 1 ∨ s.c = 2 ∨ s.c = 3 ∨ s.c = 4) with e | e | e | e <;> rw [e] <;> omega
  refine ⟨hc, ⟨p0, p1⟩, ha, ?_, hf⟩
  unfold SV.size
  rw [wrapI_small (n := s.plain * s.c) (by omega) (by omega), wrapI_small (by omega) (by omega)]

theorem rsize_bounds (s : SV) : 0 ≤ s.rsize ∧ s.rsize ≤ 144 := by
  unfold SV.rsize
  split
  · rename_i h
    obtain ⟨_, _, ha, hz, hf⟩ := size_bounds h
    omega
  · omega

theorem tile_of {s : SV} {t : Int} (h : s.inB t = true) : s.err = 0 ∧ s.Tile t := by
  simp only [SV.inB, Bool.and_eq_true, decide_eq_true_eq] at h
  obtain ⟨h0, h1⟩ := h
  unfold SV.rsize at h1
  split at h1
  · rename_i he
    obtain ⟨hc, hp, ha, hz⟩ := size_bounds he
    exact ⟨he, hc, hp, ha, hz, h0, h1⟩
  · omega

theorem btw_inB (s : SV) (t : Int) : btw t 0 (wrapI .i64 (s.rsize - 1)) = s.inB t := by
  have hb := rsize_bounds s
  rw [wrapI_small (by omega) (by omega)]
  unfold btw SV.inB
  by_cases c : t ≤ s.rsize - 1
  · have c' : t < s.rsize := by omega
    simp [c, c']
  · have c' : ¬ t < s.rsize := by omega
    simp [c, c']

theorem tdiv_small {t c : Int} (h0 : 0 ≤ t) (h1 : t < 1000) (hc : 1 ≤ c) : wrapI .i64 (t.tdiv c) = t.tdiv c ∧ 0 ≤ t.tdiv c := by
  have a : 0 ≤ t.tdiv c := Int.tdiv_nonneg h0 (by omega)
  have b : t.tdiv c ≤ t := Int.tdiv_le_self _ h0
  exact ⟨wrapI_small (by omega) (by omega), a⟩

set_option maxRecDepth 10000 in
set_option maxHeartbeats 8000000 in
theorem face_ev (call : Value → List Value → AH → Option (Value × AH)) (s : SV) (t : Int) (h75 : ∀ (H : AH), lookB H.bs 0 = some (.ints s.g) → lookB H.bs 1 = some (.ints s.h) → call (.func (.func 54) #[] #[]) [s.val] H = some (.int .i64 s.plain, H)) (h110 : ∀ (i n : Nat) (g : Nat → Int) (x : Int) (H : AH), lookB H.bs i = some (.ints g) → call (.func (.func 55) #[] #[]) [.slice (some ⟨i, 0, some 1⟩) n 0, .int .i64 x] H = some (.bool (hasG g n x), H)) (hT : s.Tile t) :
    ∃ H', evFn (tabT Try.prog) call 300 kpT 33 Try.f33 [s.val, .int .i64 t] s.hp = some (faceV (s.faceK t) (s.faceR t), H') := by
  obtain ⟨hc, hp, ha, hz, ht⟩ := hT
  obtain ⟨w4, _⟩ := tdiv_small (c := s.c) (t := t) (by omega) (by omega) hc.1
  have w1 : wrapI .i64 (s.plain * s.c) = s.plain * s.c := wrapI_small (by omega) (by omega)
  have w2 : wrapI .i64 (t - s.plain * s.c) = t - s.plain * s.c := wrapI_small (by omega) (by omega)
  have w3 : wrapI .i64 (s.plain + (t - s.plain * s.c)) = s.plain + (t - s.plain * s.c) := wrapI_small (by omega) (by omega)
  have c0 : ¬ s.c = 0 := by omega
  have h110' := fun x H => h110 1 s.k s.h x H
  unfold SV.faceK SV.faceR faceV
  simp only [SV.val] at h75
  by_cases c1 : s.plain * s.c ≤ t
  · have c1' : ¬ t < s.plain * s.c := by omega
    simp only [evFn, Try.f33, SV.val, SV.hp]
    simp [ec_skip, ec_label, ek_reg, ek_draw, ek_seq, ec_cond, ek_block, ec_loop, ec_exit, ec_ret, ec_scope, ek_nil, ek_op, opK_some, regK_some, seqK_normal, seqK_exit, seqK_ret, blockK_normal, blockK_exit, blockK_ret, evOp, vOp, hOpB, hOpU, hOp, hOpT, aAppendG_tab, aWanted, aYielded, opd, putT, closedV, aBin, intOp, sameK, mapO, joinR, hasAddr, boundOf, pushB, aAlloc, Value.cells, lookB, setB, Nat.beq_eq, tm_n_set, tm_get_set, tm_of_n, tm_of_get, tm_tr_set, tm_tr_of, cellV, putF, appR_eq, takeR_eq, dropR_eq, setR_eq, getR_eq, ↓C75, ↓C76, ↓C77, ↓C79, ↓C17, ↓C18, ↓C22, ↓C71, FA24_0, FA24_1, FA24_2, FA24_3, FA24_4, FA24_5, FA24_6, FA24_7, FA24_8, LD3, LD4, LD22, LD27, LDr, LD24, LEN22, IA22, tkc, cellAt, finF, takeM, resV, h75, h110', ↓AL84, ST84, LD84, BD84, BD84k, partsO, setB, putCells, w1, w2, w3, w4, c0, c1, c1', cellV]
  · have c1' : t < s.plain * s.c := by omega
    by_cases c2 : t.tmod s.c = 0
    · have c2' : (t.tmod s.c == 0) = true := by simpa using c2
      simp only [evFn, Try.f33, SV.val, SV.hp]
      simp [ec_skip, ec_label, ek_reg, ek_draw, ek_seq, ec_cond, ek_block, ec_loop, ec_exit, ec_ret, ec_scope, ek_nil, ek_op, opK_some, regK_some, seqK_normal, seqK_exit, seqK_ret, blockK_normal, blockK_exit, blockK_ret, evOp, vOp, hOpB, hOpU, hOp, hOpT, aAppendG_tab, aWanted, aYielded, opd, putT, closedV, aBin, intOp, sameK, mapO, joinR, hasAddr, boundOf, pushB, aAlloc, Value.cells, lookB, setB, Nat.beq_eq, tm_n_set, tm_get_set, tm_of_n, tm_of_get, tm_tr_set, tm_tr_of, cellV, putF, appR_eq, takeR_eq, dropR_eq, setR_eq, getR_eq, ↓C75, ↓C76, ↓C77, ↓C79, ↓C17, ↓C18, ↓C22, ↓C71, FA24_0, FA24_1, FA24_2, FA24_3, FA24_4, FA24_5, FA24_6, FA24_7, FA24_8, LD3, LD4, LD22, LD27, LDr, LD24, LEN22, IA22, tkc, cellAt, finF, takeM, resV, h75, h110', ↓AL84, ST84, LD84, BD84, BD84k, partsO, setB, putCells, w1, w2, w3, w4, c0, c1, c1', c2, c2', cellV]
    · have c2' : (t.tmod s.c == 0) = false := by simpa using c2
      simp only [evFn, Try.f33, SV.val, SV.hp]
      simp [ec_skip, ec_label, ek_reg, ek_draw, ek_seq, ec_cond, ek_block, ec_loop, ec_exit, ec_ret, ec_scope, ek_nil, ek_op, opK_some, regK_some, seqK_normal, seqK_exit, seqK_ret, blockK_normal, blockK_exit, blockK_ret, evOp, vOp, hOpB, hOpU, hOp, hOpT, aAppendG_tab, aWanted, aYielded, opd, putT, closedV, aBin, intOp, sameK, mapO, joinR, hasAddr, boundOf, pushB, aAlloc, Value.cells, lookB, setB, Nat.beq_eq, tm_n_set, tm_get_set, tm_of_n, tm_of_get, tm_tr_set, tm_tr_of, cellV, putF, appR_eq, takeR_eq, dropR_eq, setR_eq, getR_eq, ↓C75, ↓C76, ↓C77, ↓C79, ↓C17, ↓C18, ↓C22, ↓C71, FA24_0, FA24_1, FA24_2, FA24_3, FA24_4, FA24_5, FA24_6, FA24_7, FA24_8, LD3, LD4, LD22, LD27, LDr, LD24, LEN22, IA22, tkc, cellAt, finF, takeM, resV, h75, h110', ↓AL84, ST84, LD84, BD84, BD84k, partsO, setB, putCells, w1, w2, w3, w4, c0, c1, c1', c2, c2', cellV]

set_option maxRecDepth 10000 in
set_option maxHeartbeats 8000000 in
theorem rkind_ev (call : Value → List Value → AH → Option (Value × AH)) (s : SV) (t : Int) (h22 : ∀ (H : AH), lookB H.bs 0 = some (.ints s.g) → lookB H.bs 1 = some (.ints s.h) → call (.func (.func 34) #[] #[]) [s.val] H = some (.int .i64 s.rsize, H)) (h79 : ∀ (H : AH), lookB H.bs 0 = some (.ints s.g) → lookB H.bs 1 = some (.ints s.h) → call (.func (.func 35) #[] #[]) [s.val] H = some (.int .i64 s.plain, H)) :
    ∃ H', evFn (tabT Try.prog) call 300 kpT 10 Try.f10 [s.val, .int .i64 t] s.hp = some (.int .i64 (s.kindOf t), H') := by
  unfold SV.kindOf
  simp only [SV.val] at h22 h79
  by_cases c0 : t < 0
  · have hb : s.inB t = false := by simp [SV.inB]; omega
    simp only [evFn, Try.f10, SV.val, SV.hp]
    simp [ec_skip, ec_label, ek_reg, ek_draw, ek_seq, ec_cond, ek_block, ec_loop, ec_exit, ec_ret, ec_scope, ek_nil, ek_op, opK_some, regK_some, seqK_normal, seqK_exit, seqK_ret, blockK_normal, blockK_exit, blockK_ret, evOp, vOp, hOpB, hOpU, hOp, hOpT, aAppendG_tab, aWanted, aYielded, opd, putT, closedV, aBin, intOp, sameK, mapO, joinR, hasAddr, boundOf, pushB, aAlloc, Value.cells, lookB, setB, Nat.beq_eq, tm_n_set, tm_get_set, tm_of_n, tm_of_get, tm_tr_set, tm_tr_of, cellV, putF, appR_eq, takeR_eq, dropR_eq, setR_eq, getR_eq, ↓C75, ↓C76, ↓C77, ↓C79, ↓C17, ↓C18, ↓C22, ↓C71, FA24_0, FA24_1, FA24_2, FA24_3, FA24_4, FA24_5, FA24_6, FA24_7, FA24_8, LD3, LD4, LD22, LD27, LDr, LD24, LEN22, IA22, tkc, cellAt, finF, takeM, resV, h22, c0, hb]
  have c0' : 0 ≤ t := by omega
  by_cases c1 : s.rsize ≤ t
  · have hb : s.inB t = false := by simp [SV.inB]; omega
    simp only [evFn, Try.f10, SV.val, SV.hp]
    simp [ec_skip, ec_label, ek_reg, ek_draw, ek_seq, ec_cond, ek_block, ec_loop, ec_exit, ec_ret, ec_scope, ek_nil, ek_op, opK_some, regK_some, seqK_normal, seqK_exit, seqK_ret, blockK_normal, blockK_exit, blockK_ret, evOp, vOp, hOpB, hOpU, hOp, hOpT, aAppendG_tab, aWanted, aYielded, opd, putT, closedV, aBin, intOp, sameK, mapO, joinR, hasAddr, boundOf, pushB, aAlloc, Value.cells, lookB, setB, Nat.beq_eq, tm_n_set, tm_get_set, tm_of_n, tm_of_get, tm_tr_set, tm_tr_of, cellV, putF, appR_eq, takeR_eq, dropR_eq, setR_eq, getR_eq, ↓C75, ↓C76, ↓C77, ↓C79, ↓C17, ↓C18, ↓C22, ↓C71, FA24_0, FA24_1, FA24_2, FA24_3, FA24_4, FA24_5, FA24_6, FA24_7, FA24_8, LD3, LD4, LD22, LD27, LDr, LD24, LEN22, IA22, tkc, cellAt, finF, takeM, resV, h22, c0, c0', c1, hb]
  have c1' : t < s.rsize := by omega
  have hb : s.inB t = true := by simp [SV.inB]; omega
  obtain ⟨_, hc, hp, ha, hz, ht⟩ := tile_of hb
  obtain ⟨w4, _⟩ := tdiv_small (c := s.c) (t := t) (by omega) (by omega) hc.1
  have w1 : wrapI .i64 (s.plain * s.c) = s.plain * s.c := wrapI_small (by omega) (by omega)
  have w2 : wrapI .i64 (s.plain + t) = s.plain + t := wrapI_small (by omega) (by omega)
  have w3 : wrapI .i64 (s.plain + t - s.plain * s.c) = s.plain + (t - s.plain * s.c) := by rw [wrapI_small (by omega) (by omega)]; omega
  have d0 : ¬ s.c = 0 := by omega
  unfold SV.faceK
  by_cases c2 : s.plain * s.c ≤ t
  · simp only [evFn, Try.f10, SV.val, SV.hp]
    simp [ec_skip, ec_label, ek_reg, ek_draw, ek_seq, ec_cond, ek_block, ec_loop, ec_exit, ec_ret, ec_scope, ek_nil, ek_op, opK_some, regK_some, seqK_normal, seqK_exit, seqK_ret, blockK_normal, blockK_exit, blockK_ret, evOp, vOp, hOpB, hOpU, hOp, hOpT, aAppendG_tab, aWanted, aYielded, opd, putT, closedV, aBin, intOp, sameK, mapO, joinR, hasAddr, boundOf, pushB, aAlloc, Value.cells, lookB, setB, Nat.beq_eq, tm_n_set, tm_get_set, tm_of_n, tm_of_get, tm_tr_set, tm_tr_of, cellV, putF, appR_eq, takeR_eq, dropR_eq, setR_eq, getR_eq, ↓C75, ↓C76, ↓C77, ↓C79, ↓C17, ↓C18, ↓C22, ↓C71, FA24_0, FA24_1, FA24_2, FA24_3, FA24_4, FA24_5, FA24_6, FA24_7, FA24_8, LD3, LD4, LD22, LD27, LDr, LD24, LEN22, IA22, tkc, cellAt, finF, takeM, resV, h22, h79, c0, c0', c1, c1', hb, w1, w2, w3, w4, d0, c2]
  · have c2' : t < s.plain * s.c := by omega
    simp only [evFn, Try.f10, SV.val, SV.hp]
    simp [ec_skip, ec_label, ek_reg, ek_draw, ek_seq, ec_cond, ek_block, ec_loop, ec_exit, ec_ret, ec_scope, ek_nil, ek_op, opK_some, regK_some, seqK_normal, seqK_exit, seqK_ret, blockK_normal, blockK_exit, blockK_ret, evOp, vOp, hOpB, hOpU, hOp, hOpT, aAppendG_tab, aWanted, aYielded, opd, putT, closedV, aBin, intOp, sameK, mapO, joinR, hasAddr, boundOf, pushB, aAlloc, Value.cells, lookB, setB, Nat.beq_eq, tm_n_set, tm_get_set, tm_of_n, tm_of_get, tm_tr_set, tm_tr_of, cellV, putF, appR_eq, takeR_eq, dropR_eq, setR_eq, getR_eq, ↓C75, ↓C76, ↓C77, ↓C79, ↓C17, ↓C18, ↓C22, ↓C71, FA24_0, FA24_1, FA24_2, FA24_3, FA24_4, FA24_5, FA24_6, FA24_7, FA24_8, LD3, LD4, LD22, LD27, LDr, LD24, LEN22, IA22, tkc, cellAt, finF, takeM, resV, h22, h79, c0, c0', c1, c1', hb, w1, w2, w3, w4, d0, c2, c2']

set_option maxRecDepth 10000 in
set_option maxHeartbeats 8000000 in
theorem rred_ev (call : Value → List Value → AH → Option (Value × AH)) (s : SV) (t : Int) (h29 : ∀ (H : AH), lookB H.bs 0 = some (.ints s.g) → lookB H.bs 1 = some (.ints s.h) → call (.func (.func 10) #[] #[]) [s.val, .int .i64 t] H = some (.int .i64 (s.kindOf t), H)) (h79 : ∀ (H : AH), lookB H.bs 0 = some (.ints s.g) → lookB H.bs 1 = some (.ints s.h) → call (.func (.func 35) #[] #[]) [s.val] H = some (.int .i64 s.plain, H)) (h86 : ∀ (i n : Nat) (g : Nat → Int) (x : Int) (H : AH), lookB H.bs i = some (.ints g) → call (.func (.func 36) #[] #[]) [.slice (some ⟨i, 0, some 1⟩) n 0, .int .i64 x] H = some (.bool (hasG g n x), H)) :
    ∃ H', evFn (tabT Try.prog) call 300 kpT 12 Try.f12 [s.val, .int .i64 t] s.hp = some (.bool (s.redOf t), H') := by
  have h86' := fun x H => h86 1 s.k s.h x H
  simp only [SV.val] at h29 h79
  unfold SV.redOf
  cases hb : s.inB t with
  | false =>
    have hk : s.kindOf t = -1 := by simp [SV.kindOf, hb]
    simp only [hk] at h29
    simp only [evFn, Try.f12, SV.val, SV.hp]
    simp [ec_skip, ec_label, ek_reg, ek_draw, ek_seq, ec_cond, ek_block, ec_loop, ec_exit, ec_ret, ec_scope, ek_nil, ek_op, opK_some, regK_some, seqK_normal, seqK_exit, seqK_ret, blockK_normal, blockK_exit, blockK_ret, evOp, vOp, hOpB, hOpU, hOp, hOpT, aAppendG_tab, aWanted, aYielded, opd, putT, closedV, aBin, intOp, sameK, mapO, joinR, hasAddr, boundOf, pushB, aAlloc, Value.cells, lookB, setB, Nat.beq_eq, tm_n_set, tm_get_set, tm_of_n, tm_of_get, tm_tr_set, tm_tr_of, cellV, putF, appR_eq, takeR_eq, dropR_eq, setR_eq, getR_eq, ↓C75, ↓C76, ↓C77, ↓C79, ↓C17, ↓C18, ↓C22, ↓C71, FA24_0, FA24_1, FA24_2, FA24_3, FA24_4, FA24_5, FA24_6, FA24_7, FA24_8, LD3, LD4, LD22, LD27, LDr, LD24, LEN22, IA22, tkc, cellAt, finF, takeM, resV, h29, h79]
  | true =>
    obtain ⟨_, hc, hp, ha, hz, ht⟩ := tile_of hb
    obtain ⟨w4, k0⟩ := tdiv_small (c := s.c) (t := t) (by omega) (by omega) hc.1
    have d0 : ¬ s.c = 0 := by omega
    by_cases c2 : s.plain * s.c ≤ t
    · have hk : s.kindOf t = s.plain + (t - s.plain * s.c) := by simp [SV.kindOf, hb, SV.faceK, c2]
      have e1 : 0 ≤ s.plain + (t - s.plain * s.c) := by omega
      have e2 : ¬ s.plain + (t - s.plain * s.c) < s.plain := by omega
      have hr : s.faceR t = false := by simp [SV.faceR, c2]
      simp only [hk] at h29
      simp only [evFn, Try.f12, SV.val, SV.hp, hr]
      generalize s.plain + (t - s.plain * s.c) = z at *
      simp [ec_skip, ec_label, ek_reg, ek_draw, ek_seq, ec_cond, ek_block, ec_loop, ec_exit, ec_ret, ec_scope, ek_nil, ek_op, opK_some, regK_some, seqK_normal, seqK_exit, seqK_ret, blockK_normal, blockK_exit, blockK_ret, evOp, vOp, hOpB, hOpU, hOp, hOpT, aAppendG_tab, aWanted, aYielded, opd, putT, closedV, aBin, intOp, sameK, mapO, joinR, hasAddr, boundOf, pushB, aAlloc, Value.cells, lookB, setB, Nat.beq_eq, tm_n_set, tm_get_set, tm_of_n, tm_of_get, tm_tr_set, tm_tr_of, cellV, putF, appR_eq, takeR_eq, dropR_eq, setR_eq, getR_eq, ↓C75, ↓C76, ↓C77, ↓C79, ↓C17, ↓C18, ↓C22, ↓C71, FA24_0, FA24_1, FA24_2, FA24_3, FA24_4, FA24_5, FA24_6, FA24_7, FA24_8, LD3, LD4, LD22, LD27, LDr, LD24, LEN22, IA22, tkc, cellAt, finF, takeM, resV, h29, h79, e1, e2]
    · have hk : s.kindOf t = t.tdiv s.c := by simp [SV.kindOf, hb, SV.faceK, c2]
      have e2 : t.tdiv s.c < s.plain := by
        have h1 : t < s.plain * s.c := by omega
        have h2 := Int.mul_tdiv_add_tmod t s.c
        have h3 : 0 ≤ t.tmod s.c := Int.tmod_nonneg _ (by omega)
        have h4 : s.c * t.tdiv s.c < s.c * s.plain := by
          have : s.plain * s.c = s.c * s.plain := Int.mul_comm _ _
          omega
        exact Int.lt_of_mul_lt_mul_left h4 (by omega)
      have hr : s.faceR t = (decide (t.tmod s.c = 0) && hasG s.h s.k (t.tdiv s.c)) := by simp [SV.faceR, c2]
      simp only [hk] at h29
      rw [hr]
      by_cases c3 : t.tmod s.c = 0
      · have c3' : (t.tmod s.c == 0) = true := by simpa using c3
        simp only [evFn, Try.f12, SV.val, SV.hp]
        simp [ec_skip, ec_label, ek_reg, ek_draw, ek_seq, ec_cond, ek_block, ec_loop, ec_exit, ec_ret, ec_scope, ek_nil, ek_op, opK_some, regK_some, seqK_normal, seqK_exit, seqK_ret, blockK_normal, blockK_exit, blockK_ret, evOp, vOp, hOpB, hOpU, hOp, hOpT, aAppendG_tab, aWanted, aYielded, opd, putT, closedV, aBin, intOp, sameK, mapO, joinR, hasAddr, boundOf, pushB, aAlloc, Value.cells, lookB, setB, Nat.beq_eq, tm_n_set, tm_get_set, tm_of_n, tm_of_get, tm_tr_set, tm_tr_of, cellV, putF, appR_eq, takeR_eq, dropR_eq, setR_eq, getR_eq, ↓C75, ↓C76, ↓C77, ↓C79, ↓C17, ↓C18, ↓C22, ↓C71, FA24_0, FA24_1, FA24_2, FA24_3, FA24_4, FA24_5, FA24_6, FA24_7, FA24_8, LD3, LD4, LD22, LD27, LDr, LD24, LEN22, IA22, tkc, cellAt, finF, takeM, resV, h29, h79, k0, e2, d0, c3, c3', h86']
      · have c3' : (t.tmod s.c == 0) = false := by simpa using c3
        simp only [evFn, Try.f12, SV.val, SV.hp]
        simp [ec_skip, ec_label, ek_reg, ek_draw, ek_seq, ec_cond, ek_block, ec_loop, ec_exit, ec_ret, ec_scope, ek_nil, ek_op, opK_some, regK_some, seqK_normal, seqK_exit, seqK_ret, blockK_normal, blockK_exit, blockK_ret, evOp, vOp, hOpB, hOpU, hOp, hOpT, aAppendG_tab, aWanted, aYielded, opd, putT, closedV, aBin, intOp, sameK, mapO, joinR, hasAddr, boundOf, pushB, aAlloc, Value.cells, lookB, setB, Nat.beq_eq, tm_n_set, tm_get_set, tm_of_n, tm_of_get, tm_tr_set, tm_tr_of, cellV, putF, appR_eq, takeR_eq, dropR_eq, setR_eq, getR_eq, ↓C75, ↓C76, ↓C77, ↓C79, ↓C17, ↓C18, ↓C22, ↓C71, FA24_0, FA24_1, FA24_2, FA24_3, FA24_4, FA24_5, FA24_6, FA24_7, FA24_8, LD3, LD4, LD22, LD27, LDr, LD24, LEN22, IA22, tkc, cellAt, finF, takeM, resV, h29, h79, k0, e2, d0, c3, c3', h86']


end Go.Proofs.Ytdbpemmhkfbegaa
