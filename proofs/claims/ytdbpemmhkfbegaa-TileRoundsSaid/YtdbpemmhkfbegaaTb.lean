/-
  What is proved: the answers of more small functions of the program and of the document's own answers, for every set.
-/
import Derived.Test.YtdbpemmhkfbegaaTa
namespace Go.Proofs.Ytdbpemmhkfbegaa
open Go.RowKit
set_option linter.unusedSimpArgs false
set_option linter.unusedVariables false



theorem F72 : tabF Try.prog 31 = some Try.f31 := by kernel_rfl
theorem F78 : tabF Try.prog 52 = some Try.f52 := by kernel_rfl
theorem F74 : tabF Try.prog 69 = some Try.f69 := by kernel_rfl
theorem F77 : tabF Try.prog 63 = some Try.f63 := by kernel_rfl
theorem F79 : tabF Try.prog 35 = some Try.f35 := by kernel_rfl
theorem F71 : tabF Try.prog 67 = some Try.f67 := by kernel_rfl
theorem F109 : tabF Try.prog 73 = some Try.f73 := by kernel_rfl
theorem F73 : tabF Try.prog 68 = some Try.f68 := by kernel_rfl
theorem F76 : tabF Try.prog 53 = some Try.f53 := by kernel_rfl
theorem F17 : tabF Try.prog 56 = some Try.f56 := by kernel_rfl
theorem F18 : tabF Try.prog 30 = some Try.f30 := by kernel_rfl

set_option maxRecDepth 10000 in
set_option maxHeartbeats 4000000 in
theorem between_ev (call : Value → List Value → AH → Option (Value × AH)) (n l m : Int) (H : AH) : ∃ H', evFn (tabT Try.prog) call 300 kpT 31 Try.f31 [.int .i64 n, .int .i64 l, .int .i64 m] H = some (.bool (btw n l m), H') := by
  simp only [evFn, Try.f31, btw]
  by_cases h1 : l ≤ n <;> by_cases h2 : n ≤ m <;> simp [ec_skip, ec_label, ek_reg, ek_draw, ek_seq, ec_cond, ek_block, ec_loop, ec_exit, ec_ret, ec_scope, ek_nil, ek_op, opK_some, regK_some, seqK_normal, seqK_exit, seqK_ret, blockK_normal, blockK_exit, blockK_ret, evOp, vOp, hOpB, hOpU, hOp, hOpT, aAppendG_tab, aWanted, aYielded, opd, putT, closedV, aBin, intOp, sameK, mapO, joinR, hasAddr, boundOf, pushB, aAlloc, Value.cells, lookB, setB, Nat.beq_eq, tm_n_set, tm_get_set, tm_of_n, tm_of_get, tm_tr_set, tm_tr_of, cellV, putF, appR_eq, takeR_eq, dropR_eq, setR_eq, getR_eq, ↓C75, ↓C76, ↓C77, ↓C79, ↓C17, ↓C18, ↓C22, ↓C71, FA24_0, FA24_1, FA24_2, FA24_3, FA24_4, FA24_5, FA24_6, FA24_7, FA24_8, LD3, LD4, LD22, LD27, LDr, LD24, LEN22, IA22, tkc, cellAt, finF, takeM, resV, kpT, h1, h2]

set_option maxRecDepth 10000 in
set_option maxHeartbeats 4000000 in
theorem rbetween_ev (call : Value → List Value → AH → Option (Value × AH)) (n l m : Int) (H : AH) : ∃ H', evFn (tabT Try.prog) call 300 kpT 52 Try.f52 [.int .i64 n, .int .i64 l, .int .i64 m] H = some (.bool (btw n l m), H') := by
  simp only [evFn, Try.f52, btw]
  by_cases h1 : l ≤ n <;> by_cases h2 : n ≤ m <;> simp [ec_skip, ec_label, ek_reg, ek_draw, ek_seq, ec_cond, ek_block, ec_loop, ec_exit, ec_ret, ec_scope, ek_nil, ek_op, opK_some, regK_some, seqK_normal, seqK_exit, seqK_ret, blockK_normal, blockK_exit, blockK_ret, evOp, vOp, hOpB, hOpU, hOp, hOpT, aAppendG_tab, aWanted, aYielded, opd, putT, closedV, aBin, intOp, sameK, mapO, joinR, hasAddr, boundOf, pushB, aAlloc, Value.cells, lookB, setB, Nat.beq_eq, tm_n_set, tm_get_set, tm_of_n, tm_of_get, tm_tr_set, tm_tr_of, cellV, putF, appR_eq, takeR_eq, dropR_eq, setR_eq, getR_eq, ↓C75, ↓C76, ↓C77, ↓C79, ↓C17, ↓C18, ↓C22, ↓C71, FA24_0, FA24_1, FA24_2, FA24_3, FA24_4, FA24_5, FA24_6, FA24_7, FA24_8, LD3, LD4, LD22, LD27, LDr, LD24, LEN22, IA22, tkc, cellAt, finF, takeM, resV, kpT, h1, h2]

set_option maxRecDepth 10000 in
set_option maxHeartbeats 4000000 in
theorem badSuit_ev (call : Value → List Value → AH → Option (Value × AH)) (hb : ∀ (n l m : Int) (H : AH), call (.func (.func 31) #[] #[]) [.int .i64 n, .int .i64 l, .int .i64 m] H = some (.bool (btw n l m), H)) (n : Int) (H : AH) : ∃ H', evFn (tabT Try.prog) call 300 kpT 69 Try.f69 [.int .i64 n] H = some (.bool (!btw n 1 9), H') := by
  simp only [evFn, Try.f69]
  simp [ec_skip, ec_label, ek_reg, ek_draw, ek_seq, ec_cond, ek_block, ec_loop, ec_exit, ec_ret, ec_scope, ek_nil, ek_op, opK_some, regK_some, seqK_normal, seqK_exit, seqK_ret, blockK_normal, blockK_exit, blockK_ret, evOp, vOp, hOpB, hOpU, hOp, hOpT, aAppendG_tab, aWanted, aYielded, opd, putT, closedV, aBin, intOp, sameK, mapO, joinR, hasAddr, boundOf, pushB, aAlloc, Value.cells, lookB, setB, Nat.beq_eq, tm_n_set, tm_get_set, tm_of_n, tm_of_get, tm_tr_set, tm_tr_of, cellV, putF, appR_eq, takeR_eq, dropR_eq, setR_eq, getR_eq, ↓C75, ↓C76, ↓C77, ↓C79, ↓C17, ↓C18, ↓C22, ↓C71, FA24_0, FA24_1, FA24_2, FA24_3, FA24_4, FA24_5, FA24_6, FA24_7, FA24_8, LD3, LD4, LD22, LD27, LDr, LD24, LEN22, IA22, tkc, cellAt, finF, takeM, resV, kpT, hb]

noncomputable def SV.full (s : SV) : Int := wrapI .i64 (wrapI .i64 (3 * s.m) + 1)

set_option maxRecDepth 10000 in
set_option maxHeartbeats 4000000 in
theorem full_ev (call : Value → List Value → AH → Option (Value × AH)) (s : SV) : ∃ H', evFn (tabT Try.prog) call 300 kpT 63 Try.f63 [s.val] s.hp = some (.int .i64 s.full, H') := by
  simp only [evFn, Try.f63, SV.val, SV.hp, SV.full]
  simp [ec_skip, ec_label, ek_reg, ek_draw, ek_seq, ec_cond, ek_block, ec_loop, ec_exit, ec_ret, ec_scope, ek_nil, ek_op, opK_some, regK_some, seqK_normal, seqK_exit, seqK_ret, blockK_normal, blockK_exit, blockK_ret, evOp, vOp, hOpB, hOpU, hOp, hOpT, aAppendG_tab, aWanted, aYielded, opd, putT, closedV, aBin, intOp, sameK, mapO, joinR, hasAddr, boundOf, pushB, aAlloc, Value.cells, lookB, setB, Nat.beq_eq, tm_n_set, tm_get_set, tm_of_n, tm_of_get, tm_tr_set, tm_tr_of, cellV, putF, appR_eq, takeR_eq, dropR_eq, setR_eq, getR_eq, ↓C75, ↓C76, ↓C77, ↓C79, ↓C17, ↓C18, ↓C22, ↓C71, FA24_0, FA24_1, FA24_2, FA24_3, FA24_4, FA24_5, FA24_6, FA24_7, FA24_8, LD3, LD4, LD22, LD27, LDr, LD24, LEN22, IA22, tkc, cellAt, finF, takeM, resV, kpT]

/-- What checkReds says of the numbers from the i-th on. -/
noncomputable def redsG (h : Nat → Int) (last : Int) : Nat → Nat → Int → Int
  | 0, _, _ => 0
  | m + 1, i, b => if btw (h i) 0 last then (if h i ≤ b then 11 else redsG h last m (i + 1) (h i)) else 2

noncomputable def SV.reds (s : SV) : Int := redsG s.h (wrapI .i64 (s.plain - 1)) s.k 0 (-1)

noncomputable def I71 (s : SV) (m : Nat) (A : AF) (H : AH) : Prop := ∃ (i : Nat) (b : Int), i + m = s.k ∧ redsG s.h (wrapI .i64 (s.plain - 1)) m i b = s.reds ∧ A.tm.n = 26 ∧ A.marks = [] ∧ A.tm.get 3 = .int .i64 (wrapI .i64 (s.plain - 1)) ∧ A.tm.get 4 = .int .i64 b ∧ A.tm.get 13 = .int .i64 (i : Int) ∧ A.tm.get 12 = .int .i64 s.k ∧ A.tm.get 11 = .slice (some ⟨1, 0, some 1⟩) s.k 0 ∧ lookB H.bs 1 = some (.ints s.h)
noncomputable def Q71 (s : SV) (x : AX) (A' : AF) (_ : AH) : Prop := A'.tm.n = 26 ∧ A'.marks = [] ∧ ((x = .exit 0 ∧ s.reds = 0) ∨ (x = .ret ∧ A'.tm.get 2 = .int .i64 s.reds))

set_option maxRecDepth 10000 in
set_option maxHeartbeats 4000000 in
theorem checkReds_ev (call : Value → List Value → AH → Option (Value × AH)) (hb : ∀ (n l m : Int) (H : AH), call (.func (.func 31) #[] #[]) [.int .i64 n, .int .i64 l, .int .i64 m] H = some (.bool (btw n l m), H)) (hp : ∀ (s : SV) (H : AH), lookB H.bs 0 = some (.ints s.g) → lookB H.bs 1 = some (.ints s.h) → call (.func (.func 54) #[] #[]) [s.val] H = some (.int .i64 s.plain, H)) (s : SV) (hk : s.k ≤ 200) : ∃ H', evFn (tabT Try.prog) call 300 kpT 67 Try.f67 [s.val] s.hp = some (.int .i64 s.reds, H') := by
  have hp' := hp s
  simp only [SV.val] at hp'
  simp only [evFn, Try.f67, SV.val, SV.hp]
  simp [ec_skip, ec_label, ek_reg, ek_draw, ek_seq, ec_cond, ek_block, ec_loop, ec_exit, ec_ret, ec_scope, ek_nil, ek_op, opK_some, regK_some, seqK_normal, seqK_exit, seqK_ret, blockK_normal, blockK_exit, blockK_ret, evOp, vOp, hOpB, hOpU, hOp, hOpT, aAppendG_tab, aWanted, aYielded, opd, putT, closedV, aBin, intOp, sameK, mapO, joinR, hasAddr, boundOf, pushB, aAlloc, Value.cells, lookB, setB, Nat.beq_eq, tm_n_set, tm_get_set, tm_of_n, tm_of_get, tm_tr_set, tm_tr_of, cellV, putF, appR_eq, takeR_eq, dropR_eq, setR_eq, getR_eq, ↓C75, ↓C76, ↓C77, ↓C79, ↓C17, ↓C18, ↓C22, ↓C71, FA24_0, FA24_1, FA24_2, FA24_3, FA24_4, FA24_5, FA24_6, FA24_7, FA24_8, LD3, LD4, LD22, LD27, LDr, LD24, LEN22, IA22, tkc, cellAt, hp']
  generalize hr : evLoop _ _ _ _ = r
  obtain ⟨x, A', H', rfl, hl, hmk, hx⟩ := loop_go (Q := Q71 s) hr (I71 s) s.k (by omega) ⟨0, -1, by omega, rfl, rfl, rfl, rfl, rfl, rfl, rfl, rfl, rfl⟩ (by
      clear hr
      rintro m A H ⟨i, b, him, hres, hl, hmk, h3, h4, h13, h12, h11, hH⟩
      simp only [runC]
      cases m with
      | zero =>
        have hi : ¬ i < s.k := by omega
        simp only [redsG] at hres
        simp [ec_skip, ec_label, ek_reg, ek_draw, ek_seq, ec_cond, ek_block, ec_loop, ec_exit, ec_ret, ec_scope, ek_nil, ek_op, opK_some, regK_some, seqK_normal, seqK_exit, seqK_ret, blockK_normal, blockK_exit, blockK_ret, evOp, vOp, hOpB, hOpU, hOp, hOpT, aAppendG_tab, aWanted, aYielded, opd, putT, closedV, aBin, intOp, sameK, mapO, joinR, hasAddr, boundOf, pushB, aAlloc, Value.cells, lookB, setB, Nat.beq_eq, tm_n_set, tm_get_set, tm_of_n, tm_of_get, tm_tr_set, tm_tr_of, cellV, putF, appR_eq, takeR_eq, dropR_eq, setR_eq, getR_eq, ↓C75, ↓C76, ↓C77, ↓C79, ↓C17, ↓C18, ↓C22, ↓C71, FA24_0, FA24_1, FA24_2, FA24_3, FA24_4, FA24_5, FA24_6, FA24_7, FA24_8, LD3, LD4, LD22, LD27, LDr, LD24, LEN22, IA22, tkc, cellAt, hl, hmk, h3, h4, h13, h12, h11, hi]
        exact .inr ⟨by simp, by simp [tm_n_set, hl], rfl, .inl ⟨rfl, hres.symm⟩⟩
      | succ m =>
        have hi : i < s.k := by omega
        have hw : wrapI .i64 ((i : Int) + 1) = ((i + 1 : Nat) : Int) := by rw [wrapI_small (by omega) (by omega)]; rfl
        simp only [redsG] at hres
        by_cases c1 : btw (s.h i) 0 (wrapI .i64 (s.plain - 1)) = true
        · by_cases c2 : s.h i ≤ b
          · simp only [c1, c2, if_true] at hres
            simp [ec_skip, ec_label, ek_reg, ek_draw, ek_seq, ec_cond, ek_block, ec_loop, ec_exit, ec_ret, ec_scope, ek_nil, ek_op, opK_some, regK_some, seqK_normal, seqK_exit, seqK_ret, blockK_normal, blockK_exit, blockK_ret, evOp, vOp, hOpB, hOpU, hOp, hOpT, aAppendG_tab, aWanted, aYielded, opd, putT, closedV, aBin, intOp, sameK, mapO, joinR, hasAddr, boundOf, pushB, aAlloc, Value.cells, lookB, setB, Nat.beq_eq, tm_n_set, tm_get_set, tm_of_n, tm_of_get, tm_tr_set, tm_tr_of, cellV, putF, appR_eq, takeR_eq, dropR_eq, setR_eq, getR_eq, ↓C75, ↓C76, ↓C77, ↓C79, ↓C17, ↓C18, ↓C22, ↓C71, FA24_0, FA24_1, FA24_2, FA24_3, FA24_4, FA24_5, FA24_6, FA24_7, FA24_8, LD3, LD4, LD22, LD27, LDr, LD24, LEN22, IA22, tkc, cellAt, hl, hmk, h3, h4, h13, h12, h11, hH, hi, hb, c1, c2]
            exact .inr ⟨by simp, by simp [tm_n_set, hl], rfl, .inr ⟨rfl, by simp [tm_get_set, tm_n_set, hl, hres]⟩⟩
          · simp only [c1, c2, if_true, if_false] at hres
            simp [ec_skip, ec_label, ek_reg, ek_draw, ek_seq, ec_cond, ek_block, ec_loop, ec_exit, ec_ret, ec_scope, ek_nil, ek_op, opK_some, regK_some, seqK_normal, seqK_exit, seqK_ret, blockK_normal, blockK_exit, blockK_ret, evOp, vOp, hOpB, hOpU, hOp, hOpT, aAppendG_tab, aWanted, aYielded, opd, putT, closedV, aBin, intOp, sameK, mapO, joinR, hasAddr, boundOf, pushB, aAlloc, Value.cells, lookB, setB, Nat.beq_eq, tm_n_set, tm_get_set, tm_of_n, tm_of_get, tm_tr_set, tm_tr_of, cellV, putF, appR_eq, takeR_eq, dropR_eq, setR_eq, getR_eq, ↓C75, ↓C76, ↓C77, ↓C79, ↓C17, ↓C18, ↓C22, ↓C71, FA24_0, FA24_1, FA24_2, FA24_3, FA24_4, FA24_5, FA24_6, FA24_7, FA24_8, LD3, LD4, LD22, LD27, LDr, LD24, LEN22, IA22, tkc, cellAt, hl, hmk, h3, h4, h13, h12, h11, hH, hi, hb, c1, c2]
            refine .inl ⟨rfl, m, rfl, i + 1, s.h i, by omega, hres, ?_⟩
            simp [tm_get_set, tm_n_set, hl, h3, h4, h13, h12, h11, hH, hw]
        · simp only [c1, Bool.false_eq_true, if_false] at hres
          have c1' : btw (s.h i) 0 (wrapI .i64 (s.plain - 1)) = false := by simpa using c1
          simp [ec_skip, ec_label, ek_reg, ek_draw, ek_seq, ec_cond, ek_block, ec_loop, ec_exit, ec_ret, ec_scope, ek_nil, ek_op, opK_some, regK_some, seqK_normal, seqK_exit, seqK_ret, blockK_normal, blockK_exit, blockK_ret, evOp, vOp, hOpB, hOpU, hOp, hOpT, aAppendG_tab, aWanted, aYielded, opd, putT, closedV, aBin, intOp, sameK, mapO, joinR, hasAddr, boundOf, pushB, aAlloc, Value.cells, lookB, setB, Nat.beq_eq, tm_n_set, tm_get_set, tm_of_n, tm_of_get, tm_tr_set, tm_tr_of, cellV, putF, appR_eq, takeR_eq, dropR_eq, setR_eq, getR_eq, ↓C75, ↓C76, ↓C77, ↓C79, ↓C17, ↓C18, ↓C22, ↓C71, FA24_0, FA24_1, FA24_2, FA24_3, FA24_4, FA24_5, FA24_6, FA24_7, FA24_8, LD3, LD4, LD22, LD27, LDr, LD24, LEN22, IA22, tkc, cellAt, hl, hmk, h3, h4, h13, h12, h11, hH, hi, hb, c1']
          exact .inr ⟨by simp, by simp [tm_n_set, hl], rfl, .inr ⟨rfl, by simp [tm_get_set, tm_n_set, hl, hres]⟩⟩)
  rcases hx with ⟨rfl, hx⟩ | ⟨rfl, hx⟩
  · simp [ec_skip, ec_label, ek_reg, ek_draw, ek_seq, ec_cond, ek_block, ec_loop, ec_exit, ec_ret, ec_scope, ek_nil, ek_op, opK_some, regK_some, seqK_normal, seqK_exit, seqK_ret, blockK_normal, blockK_exit, blockK_ret, evOp, vOp, hOpB, hOpU, hOp, hOpT, aAppendG_tab, aWanted, aYielded, opd, putT, closedV, aBin, intOp, sameK, mapO, joinR, hasAddr, boundOf, pushB, aAlloc, Value.cells, lookB, setB, Nat.beq_eq, tm_n_set, tm_get_set, tm_of_n, tm_of_get, tm_tr_set, tm_tr_of, cellV, putF, appR_eq, takeR_eq, dropR_eq, setR_eq, getR_eq, ↓C75, ↓C76, ↓C77, ↓C79, ↓C17, ↓C18, ↓C22, ↓C71, FA24_0, FA24_1, FA24_2, FA24_3, FA24_4, FA24_5, FA24_6, FA24_7, FA24_8, LD3, LD4, LD22, LD27, LDr, LD24, LEN22, IA22, tkc, cellAt, finF, takeM, resV, hl, hmk, hx]
  · simp [ec_skip, ec_label, ek_reg, ek_draw, ek_seq, ec_cond, ek_block, ec_loop, ec_exit, ec_ret, ec_scope, ek_nil, ek_op, opK_some, regK_some, seqK_normal, seqK_exit, seqK_ret, blockK_normal, blockK_exit, blockK_ret, evOp, vOp, hOpB, hOpU, hOp, hOpT, aAppendG_tab, aWanted, aYielded, opd, putT, closedV, aBin, intOp, sameK, mapO, joinR, hasAddr, boundOf, pushB, aAlloc, Value.cells, lookB, setB, Nat.beq_eq, tm_n_set, tm_get_set, tm_of_n, tm_of_get, tm_tr_set, tm_tr_of, cellV, putF, appR_eq, takeR_eq, dropR_eq, setR_eq, getR_eq, ↓C75, ↓C76, ↓C77, ↓C79, ↓C17, ↓C18, ↓C22, ↓C71, FA24_0, FA24_1, FA24_2, FA24_3, FA24_4, FA24_5, FA24_6, FA24_7, FA24_8, LD3, LD4, LD22, LD27, LDr, LD24, LEN22, IA22, tkc, cellAt, finF, takeM, resV, hl, hmk, hx]

/-- Where the first number lies that is no number of ranks. -/
noncomputable def idxBad (g : Nat → Int) : Nat → Nat → Int
  | 0, _ => -1
  | m + 1, i => if btw (g i) 1 9 then idxBad g m (i + 1) else i

noncomputable def hp1 (g : Nat → Int) : AH := ⟨1, [(0, .ints g)]⟩
noncomputable def sl1 (n : Nat) : Value := .slice (some ⟨0, 0, some 1⟩) n 0

noncomputable def I109 (g : Nat → Int) (n : Nat) (m : Nat) (A : AF) (H : AH) : Prop := ∃ (i : Nat), i + m = n ∧ idxBad g m i = idxBad g n 0 ∧ A.tm.n = 19 ∧ A.marks = [] ∧ A.tm.get 8 = .int .i64 (i : Int) ∧ A.tm.get 7 = .int .i64 n ∧ A.tm.get 0 = .slice (some ⟨0, 0, some 1⟩) n 0 ∧ A.tm.get 1 = .func (.func 69) #[] #[] ∧ lookB H.bs 0 = some (.ints g)
noncomputable def Q109 (g : Nat → Int) (n : Nat) (x : AX) (A' : AF) (_ : AH) : Prop := A'.tm.n = 19 ∧ A'.marks = [] ∧ ((x = .exit 0 ∧ idxBad g n 0 = -1) ∨ (x = .ret ∧ A'.tm.get 4 = .int .i64 (idxBad g n 0)))

set_option maxRecDepth 10000 in
set_option maxHeartbeats 4000000 in
theorem indexFunc_ev (call : Value → List Value → AH → Option (Value × AH)) (hb : ∀ (n : Int) (H : AH), call (.func (.func 69) #[] #[]) [.int .i64 n] H = some (.bool (!btw n 1 9), H)) (g : Nat → Int) (n : Nat) (hk : n ≤ 200) : ∃ H', evFn (tabT Try.prog) call 300 kpT 73 Try.f73 [sl1 n, .func (.func 69) #[] #[]] (hp1 g) = some (.int .i64 (idxBad g n 0), H') := by
  simp only [evFn, Try.f73, hp1, sl1]
  obtain ⟨_, _, _, _, t3, n3, m3⟩ := T3x
  simp [ec_skip, ec_label, ek_reg, ek_draw, ek_seq, ec_cond, ek_block, ec_loop, ec_exit, ec_ret, ec_scope, ek_nil, ek_op, opK_some, regK_some, seqK_normal, seqK_exit, seqK_ret, blockK_normal, blockK_exit, blockK_ret, evOp, vOp, hOpB, hOpU, hOp, hOpT, aAppendG_tab, aWanted, aYielded, opd, putT, closedV, aBin, intOp, sameK, mapO, joinR, hasAddr, boundOf, pushB, aAlloc, Value.cells, lookB, setB, Nat.beq_eq, tm_n_set, tm_get_set, tm_of_n, tm_of_get, tm_tr_set, tm_tr_of, cellV, putF, appR_eq, takeR_eq, dropR_eq, setR_eq, getR_eq, ↓C75, ↓C76, ↓C77, ↓C79, ↓C17, ↓C18, ↓C22, ↓C71, FA24_0, FA24_1, FA24_2, FA24_3, FA24_4, FA24_5, FA24_6, FA24_7, FA24_8, LD3, LD4, LD22, LD27, LDr, LD24, LEN22, IA22, tkc, cellAt]
  generalize hr : evLoop _ _ _ _ = r
  obtain ⟨x, A', H', rfl, hl, hmk, hx⟩ := loop_go (Q := Q109 g n) hr (I109 g n) n (by omega) ⟨0, by omega, rfl, rfl, rfl, rfl, rfl, rfl, rfl, rfl⟩ (by
      clear hr
      rintro m A H ⟨i, him, hres, hl, hmk, h8, h7, h0, h1, hH⟩
      simp only [runC]
      cases m with
      | zero =>
        have hi : ¬ i < n := by omega
        rw [idxBad] at hres
        simp [ec_skip, ec_label, ek_reg, ek_draw, ek_seq, ec_cond, ek_block, ec_loop, ec_exit, ec_ret, ec_scope, ek_nil, ek_op, opK_some, regK_some, seqK_normal, seqK_exit, seqK_ret, blockK_normal, blockK_exit, blockK_ret, evOp, vOp, hOpB, hOpU, hOp, hOpT, aAppendG_tab, aWanted, aYielded, opd, putT, closedV, aBin, intOp, sameK, mapO, joinR, hasAddr, boundOf, pushB, aAlloc, Value.cells, lookB, setB, Nat.beq_eq, tm_n_set, tm_get_set, tm_of_n, tm_of_get, tm_tr_set, tm_tr_of, cellV, putF, appR_eq, takeR_eq, dropR_eq, setR_eq, getR_eq, ↓C75, ↓C76, ↓C77, ↓C79, ↓C17, ↓C18, ↓C22, ↓C71, FA24_0, FA24_1, FA24_2, FA24_3, FA24_4, FA24_5, FA24_6, FA24_7, FA24_8, LD3, LD4, LD22, LD27, LDr, LD24, LEN22, IA22, tkc, cellAt, hl, hmk, h8, h7, h0, h1, hi]
        exact .inr ⟨by simp, by simp [tm_n_set, hl], rfl, .inl ⟨rfl, hres.symm⟩⟩
      | succ m =>
        have hi : i < n := by omega
        have hw : wrapI .i64 ((i : Int) + 1) = ((i + 1 : Nat) : Int) := by rw [wrapI_small (by omega) (by omega)]; rfl
        rw [idxBad] at hres
        cases c1 : btw (g i) 1 9 with
        | true =>
          simp only [c1, if_true] at hres
          simp [ec_skip, ec_label, ek_reg, ek_draw, ek_seq, ec_cond, ek_block, ec_loop, ec_exit, ec_ret, ec_scope, ek_nil, ek_op, opK_some, regK_some, seqK_normal, seqK_exit, seqK_ret, blockK_normal, blockK_exit, blockK_ret, evOp, vOp, hOpB, hOpU, hOp, hOpT, aAppendG_tab, aWanted, aYielded, opd, putT, closedV, aBin, intOp, sameK, mapO, joinR, hasAddr, boundOf, pushB, aAlloc, Value.cells, lookB, setB, Nat.beq_eq, tm_n_set, tm_get_set, tm_of_n, tm_of_get, tm_tr_set, tm_tr_of, cellV, putF, appR_eq, takeR_eq, dropR_eq, setR_eq, getR_eq, ↓C75, ↓C76, ↓C77, ↓C79, ↓C17, ↓C18, ↓C22, ↓C71, FA24_0, FA24_1, FA24_2, FA24_3, FA24_4, FA24_5, FA24_6, FA24_7, FA24_8, LD3, LD4, LD22, LD27, LDr, LD24, LEN22, IA22, tkc, cellAt, hl, hmk, h8, h7, h0, h1, hH, hi, hb, c1, t3, n3, m3]
          refine .inl ⟨rfl, m, rfl, i + 1, by omega, hres, ?_⟩
          simp [tm_get_set, tm_n_set, hl, h8, h7, h0, h1, hH, hw]
        | false =>
          simp only [c1, Bool.false_eq_true, if_false] at hres
          simp [ec_skip, ec_label, ek_reg, ek_draw, ek_seq, ec_cond, ek_block, ec_loop, ec_exit, ec_ret, ec_scope, ek_nil, ek_op, opK_some, regK_some, seqK_normal, seqK_exit, seqK_ret, blockK_normal, blockK_exit, blockK_ret, evOp, vOp, hOpB, hOpU, hOp, hOpT, aAppendG_tab, aWanted, aYielded, opd, putT, closedV, aBin, intOp, sameK, mapO, joinR, hasAddr, boundOf, pushB, aAlloc, Value.cells, lookB, setB, Nat.beq_eq, tm_n_set, tm_get_set, tm_of_n, tm_of_get, tm_tr_set, tm_tr_of, cellV, putF, appR_eq, takeR_eq, dropR_eq, setR_eq, getR_eq, ↓C75, ↓C76, ↓C77, ↓C79, ↓C17, ↓C18, ↓C22, ↓C71, FA24_0, FA24_1, FA24_2, FA24_3, FA24_4, FA24_5, FA24_6, FA24_7, FA24_8, LD3, LD4, LD22, LD27, LDr, LD24, LEN22, IA22, tkc, cellAt, hl, hmk, h8, h7, h0, h1, hH, hi, hb, c1, t3, n3, m3]
          exact .inr ⟨by simp, by simp [tm_n_set, hl], rfl, .inr ⟨rfl, by simp [tm_get_set, tm_n_set, hl, hres]⟩⟩)
  rcases hx with ⟨rfl, hx⟩ | ⟨rfl, hx⟩
  · simp [ec_skip, ec_label, ek_reg, ek_draw, ek_seq, ec_cond, ek_block, ec_loop, ec_exit, ec_ret, ec_scope, ek_nil, ek_op, opK_some, regK_some, seqK_normal, seqK_exit, seqK_ret, blockK_normal, blockK_exit, blockK_ret, evOp, vOp, hOpB, hOpU, hOp, hOpT, aAppendG_tab, aWanted, aYielded, opd, putT, closedV, aBin, intOp, sameK, mapO, joinR, hasAddr, boundOf, pushB, aAlloc, Value.cells, lookB, setB, Nat.beq_eq, tm_n_set, tm_get_set, tm_of_n, tm_of_get, tm_tr_set, tm_tr_of, cellV, putF, appR_eq, takeR_eq, dropR_eq, setR_eq, getR_eq, ↓C75, ↓C76, ↓C77, ↓C79, ↓C17, ↓C18, ↓C22, ↓C71, FA24_0, FA24_1, FA24_2, FA24_3, FA24_4, FA24_5, FA24_6, FA24_7, FA24_8, LD3, LD4, LD22, LD27, LDr, LD24, LEN22, IA22, tkc, cellAt, finF, takeM, resV, hl, hmk, hx]
  · simp [ec_skip, ec_label, ek_reg, ek_draw, ek_seq, ec_cond, ek_block, ec_loop, ec_exit, ec_ret, ec_scope, ek_nil, ek_op, opK_some, regK_some, seqK_normal, seqK_exit, seqK_ret, blockK_normal, blockK_exit, blockK_ret, evOp, vOp, hOpB, hOpU, hOp, hOpT, aAppendG_tab, aWanted, aYielded, opd, putT, closedV, aBin, intOp, sameK, mapO, joinR, hasAddr, boundOf, pushB, aAlloc, Value.cells, lookB, setB, Nat.beq_eq, tm_n_set, tm_get_set, tm_of_n, tm_of_get, tm_tr_set, tm_tr_of, cellV, putF, appR_eq, takeR_eq, dropR_eq, setR_eq, getR_eq, ↓C75, ↓C76, ↓C77, ↓C79, ↓C17, ↓C18, ↓C22, ↓C71, FA24_0, FA24_1, FA24_2, FA24_3, FA24_4, FA24_5, FA24_6, FA24_7, FA24_8, LD3, LD4, LD22, LD27, LDr, LD24, LEN22, IA22, tkc, cellAt, finF, takeM, resV, hl, hmk, hx]

noncomputable def anyBad (g : Nat → Int) (n : Nat) : Bool := decide (0 ≤ idxBad g n 0)

set_option maxRecDepth 10000 in
set_option maxHeartbeats 4000000 in
theorem containsFunc_ev (call : Value → List Value → AH → Option (Value × AH)) (hb : ∀ (g : Nat → Int) (n : Nat) (H : AH), lookB H.bs 0 = some (.ints g) → call (.func (.func 73) #[] #[]) [sl1 n, .func (.func 69) #[] #[]] H = some (.int .i64 (idxBad g n 0), H)) (g : Nat → Int) (n : Nat) : ∃ H', evFn (tabT Try.prog) call 300 kpT 68 Try.f68 [sl1 n, .func (.func 69) #[] #[]] (hp1 g) = some (.bool (anyBad g n), H') := by
  have hb' := hb g n
  simp only [sl1] at hb'
  simp only [evFn, Try.f68, hp1, sl1, anyBad]
  simp [ec_skip, ec_label, ek_reg, ek_draw, ek_seq, ec_cond, ek_block, ec_loop, ec_exit, ec_ret, ec_scope, ek_nil, ek_op, opK_some, regK_some, seqK_normal, seqK_exit, seqK_ret, blockK_normal, blockK_exit, blockK_ret, evOp, vOp, hOpB, hOpU, hOp, hOpT, aAppendG_tab, aWanted, aYielded, opd, putT, closedV, aBin, intOp, sameK, mapO, joinR, hasAddr, boundOf, pushB, aAlloc, Value.cells, lookB, setB, Nat.beq_eq, tm_n_set, tm_get_set, tm_of_n, tm_of_get, tm_tr_set, tm_tr_of, cellV, putF, appR_eq, takeR_eq, dropR_eq, setR_eq, getR_eq, ↓C75, ↓C76, ↓C77, ↓C79, ↓C17, ↓C18, ↓C22, ↓C71, FA24_0, FA24_1, FA24_2, FA24_3, FA24_4, FA24_5, FA24_6, FA24_7, FA24_8, LD3, LD4, LD22, LD27, LDr, LD24, LEN22, IA22, tkc, cellAt, finF, takeM, resV, hb']

noncomputable def I79 (s : SV) (m : Nat) (A : AF) (H : AH) : Prop := ∃ (i : Nat) (acc : Int), i + m = s.n ∧ sumG s.g m i acc = s.plain ∧ A.tm.n = 25 ∧ A.marks = [] ∧ A.tm.get 3 = .int .i64 acc ∧ A.tm.get 4 = .int .i64 (i : Int) ∧ A.tm.get 1 = .pointer (some ⟨2, 0, none⟩) ∧ cellAt H.bs 2 1 = some (.slice (some ⟨0, 0, some 1⟩) s.n 0) ∧ lookB H.bs 0 = some (.ints s.g)
noncomputable def Q79 (s : SV) (x : AX) (A' : AF) (_ : AH) : Prop := x = .exit 0 ∧ A'.tm.n = 25 ∧ A'.marks = [] ∧ A'.tm.get 3 = .int .i64 s.plain

set_option maxRecDepth 10000 in
set_option maxHeartbeats 4000000 in
theorem plain_ev (call : Value → List Value → AH → Option (Value × AH)) (s : SV) (hn : s.n ≤ 200) : ∃ H', evFn (tabT Try.prog) call 300 kpT 35 Try.f35 [s.val] s.hp = some (.int .i64 s.plain, H') := by
  simp only [evFn, Try.f35, SV.val, SV.hp]
  simp [ec_skip, ec_label, ek_reg, ek_draw, ek_seq, ec_cond, ek_block, ec_loop, ec_exit, ec_ret, ec_scope, ek_nil, ek_op, opK_some, regK_some, seqK_normal, seqK_exit, seqK_ret, blockK_normal, blockK_exit, blockK_ret, evOp, vOp, hOpB, hOpU, hOp, hOpT, aAppendG_tab, aWanted, aYielded, opd, putT, closedV, aBin, intOp, sameK, mapO, joinR, hasAddr, boundOf, pushB, aAlloc, Value.cells, lookB, setB, Nat.beq_eq, tm_n_set, tm_get_set, tm_of_n, tm_of_get, tm_tr_set, tm_tr_of, cellV, putF, appR_eq, takeR_eq, dropR_eq, setR_eq, getR_eq, ↓C75, ↓C76, ↓C77, ↓C79, ↓C17, ↓C18, ↓C22, ↓C71, FA24_0, FA24_1, FA24_2, FA24_3, FA24_4, FA24_5, FA24_6, FA24_7, FA24_8, LD3, LD4, LD22, LD27, LDr, LD24, LEN22, IA22, tkc, cellAt]
  generalize hr : evLoop _ _ _ _ = r
  obtain ⟨x, A', H', rfl, rfl, hl, hmk, h3⟩ := loop_go (Q := Q79 s) hr (I79 s)
    s.n (by omega) ⟨0, _, by omega, rfl, rfl, rfl, rfl, rfl, rfl, rfl, rfl⟩ (by
      clear hr
      rintro m A H ⟨i, acc, him, hsum, hl, hmk, h3, h4, h1, h2, hH⟩
      simp only [runC]
      cases m with
      | zero =>
        have hi : ¬ i < s.n := by omega
        simp only [sumG] at hsum
        simp [ec_skip, ec_label, ek_reg, ek_draw, ek_seq, ec_cond, ek_block, ec_loop, ec_exit, ec_ret, ec_scope, ek_nil, ek_op, opK_some, regK_some, seqK_normal, seqK_exit, seqK_ret, blockK_normal, blockK_exit, blockK_ret, evOp, vOp, hOpB, hOpU, hOp, hOpT, aAppendG_tab, aWanted, aYielded, opd, putT, closedV, aBin, intOp, sameK, mapO, joinR, hasAddr, boundOf, pushB, aAlloc, Value.cells, lookB, setB, Nat.beq_eq, tm_n_set, tm_get_set, tm_of_n, tm_of_get, tm_tr_set, tm_tr_of, cellV, putF, appR_eq, takeR_eq, dropR_eq, setR_eq, getR_eq, ↓C75, ↓C76, ↓C77, ↓C79, ↓C17, ↓C18, ↓C22, ↓C71, FA24_0, FA24_1, FA24_2, FA24_3, FA24_4, FA24_5, FA24_6, FA24_7, FA24_8, LD3, LD4, LD22, LD27, LDr, LD24, LEN22, IA22, tkc, hl, hmk, h3, h4, h1, h2, hi]
        exact .inr ⟨by simp, rfl, by simp [tm_n_set, hl], rfl, by simp [tm_get_set, tm_n_set, hl, h3, hsum]⟩
      | succ m =>
        have hi : i < s.n := by omega
        have hw : wrapI .i64 ((i : Int) + 1) = ((i + 1 : Nat) : Int) := by rw [wrapI_small (by omega) (by omega)]; rfl
        simp [ec_skip, ec_label, ek_reg, ek_draw, ek_seq, ec_cond, ek_block, ec_loop, ec_exit, ec_ret, ec_scope, ek_nil, ek_op, opK_some, regK_some, seqK_normal, seqK_exit, seqK_ret, blockK_normal, blockK_exit, blockK_ret, evOp, vOp, hOpB, hOpU, hOp, hOpT, aAppendG_tab, aWanted, aYielded, opd, putT, closedV, aBin, intOp, sameK, mapO, joinR, hasAddr, boundOf, pushB, aAlloc, Value.cells, lookB, setB, Nat.beq_eq, tm_n_set, tm_get_set, tm_of_n, tm_of_get, tm_tr_set, tm_tr_of, cellV, putF, appR_eq, takeR_eq, dropR_eq, setR_eq, getR_eq, ↓C75, ↓C76, ↓C77, ↓C79, ↓C17, ↓C18, ↓C22, ↓C71, FA24_0, FA24_1, FA24_2, FA24_3, FA24_4, FA24_5, FA24_6, FA24_7, FA24_8, LD3, LD4, LD22, LD27, LDr, LD24, LEN22, IA22, tkc, hl, hmk, h3, h4, h1, h2, hH, hi]
        refine .inl ⟨rfl, m, rfl, i + 1, wrapI .i64 (acc + s.g i), by omega, hsum, ?_⟩
        simp [tm_get_set, tm_n_set, hl, h3, h4, h1, h2, hH, hw])
  simp [ec_skip, ec_label, ek_reg, ek_draw, ek_seq, ec_cond, ek_block, ec_loop, ec_exit, ec_ret, ec_scope, ek_nil, ek_op, opK_some, regK_some, seqK_normal, seqK_exit, seqK_ret, blockK_normal, blockK_exit, blockK_ret, evOp, vOp, hOpB, hOpU, hOp, hOpT, aAppendG_tab, aWanted, aYielded, opd, putT, closedV, aBin, intOp, sameK, mapO, joinR, hasAddr, boundOf, pushB, aAlloc, Value.cells, lookB, setB, Nat.beq_eq, tm_n_set, tm_get_set, tm_of_n, tm_of_get, tm_tr_set, tm_tr_of, cellV, putF, appR_eq, takeR_eq, dropR_eq, setR_eq, getR_eq, ↓C75, ↓C76, ↓C77, ↓C79, ↓C17, ↓C18, ↓C22, ↓C71, FA24_0, FA24_1, FA24_2, FA24_3, FA24_4, FA24_5, FA24_6, FA24_7, FA24_8, LD3, LD4, LD22, LD27, LDr, LD24, LEN22, IA22, tkc, finF, takeM, resV, hl, hmk, h3]


end Go.Proofs.Ytdbpemmhkfbegaa
