/-
  What is proved: what the closure in tile.kinds that yields the kinds of one suit comes to, whatever the loop's body does with them.
-/
import Derived.Test.YtdbpemmhkfbegaaTg
namespace Go.Proofs.Ytdbpemmhkfbegaa
open Go.RowKit
set_option linter.unusedSimpArgs false
set_option linter.unusedVariables false


theorem F84 : tabF Try.prog 28 = some Try.f28 := by kernel_rfl
theorem F87 : tabF Try.prog 38 = some Try.f38 := by kernel_rfl
theorem F111 : tabF Try.prog 57 = some Try.f57 := by kernel_rfl
theorem kg58 : (kpT 58, gcT 58) = (true, false) := by kernel_rfl
theorem F112 : tabF Try.prog 58 = some Try.f58 := by kernel_rfl

theorem LD122 (H : AH) (i off : Nat) : aLoad (tabT Try.prog) H 74 (.pointer (some ⟨i, off, none⟩)) = cellAt H.bs i off := ldc (by kernel_rfl) H i off
theorem BD80 (a b c : Int) : aBuild (tabT Try.prog) 43 [(0, .int .i64 a), (1, .int .i64 b), (2, .int .i64 c)] = some (.agg #[.int .i64 a, .int .i64 b, .int .i64 c]) := by kernel_rfl
theorem ST3 (H : AH) (i off : Nat) (n : Int) (cs : List Value) (h : lookB H.bs i = some (.cells false cs)) (hl : off < cs.length) : aStore (tabT Try.prog) H 3 (.pointer (some ⟨i, off, none⟩)) (.int .i64 n) = some { H with bs := setB H.bs i (.cells false (cs.set off (.int .i64 n))) } := by
  rw [sti (z := 1) (by kernel_rfl)]
  have h1 : off + 1 ≤ cs.length := by omega
  simp [h, Value.cells, cellV, putF, setR_eq, h1, Nat.ble_eq]

/-- A kind, as the rows yield it: which row, which rank of how many. -/
noncomputable def placeV (su r q : Int) : Value := .agg #[.int .i64 su, .int .i64 r, .int .i64 q]

noncomputable def rowR (Mr : Int → Nat → AH) (HD : Int → Int → Nat → AH) (hit : Int → Int → Bool) : Nat → Int → Int → Nat → Value × AH
  | 0, _, c, m => (.bool true, Mr c m)
  | k + 1, i, c, m => if hit c i then (.bool false, HD c i m) else rowR Mr HD hit k (i + 1) (c + 1) (m + 1)

noncomputable def I112 (Mr : Int → Nat → AH) (HD : Int → Int → Nat → AH) (hit : Int → Int → Bool) (R : Value × AH) (su q : Int) (k : Nat) (A : AF) (H : AH) : Prop :=
  ∃ (i c : Int) (m : Nat), i + k = q ∧ 0 ≤ i ∧ q ≤ 200 ∧ 0 ≤ c ∧ c + k ≤ 100000 ∧ rowR Mr HD hit k i c m = R ∧ H = Mr c m ∧ A.tm.n = 23 ∧ A.marks = [] ∧ A.tm.get 0 = .int .i64 su ∧ A.tm.get 1 = .int .i64 q ∧ A.tm.get 2 = .pointer (some ⟨9, 0, none⟩) ∧ A.tm.get 3 = .pointer (some ⟨10, 0, none⟩) ∧ A.tm.get 8 = .int .i64 q ∧ A.tm.get 9 = .int .i64 i
noncomputable def Q112 (R : Value × AH) (z : AX) (A' : AF) (H : AH) : Prop := A'.tm.n = 23 ∧ A'.marks = [] ∧ H = R.2 ∧ ((z = .exit 0 ∧ R.1 = .bool true) ∨ (z = .ret ∧ R.1 = .bool false ∧ A'.tm.get 6 = .bool false))

set_option maxRecDepth 10000 in
set_option maxHeartbeats 8000000 in
theorem row_ev (call : Value → List Value → AH → Option (Value × AH)) (Mr : Int → Nat → AH) (HD : Int → Int → Nat → AH) (hit : Int → Int → Bool) (su : Int) (q : Nat) (c : Int) (m : Nat)
    (h9 : ∀ c m, lookB (Mr c m).bs 9 = some (.cells false [.func (.yield 8) #[] #[]])) (h10 : ∀ c m, lookB (Mr c m).bs 10 = some (.cells false [.int .i64 c]))
    (hset : ∀ c m c', ({ Mr c m with bs := setB (Mr c m).bs 10 (.cells false [.int .i64 c']) } : AH) = Mr c' m)
    (hy : ∀ (c r : Int) (m : Nat), call (.func (.yield 8) #[] #[]) [.int .i64 c, placeV su r q] (Mr c m) = if hit c r then some (.bool false, HD c r m) else some (.bool true, Mr c (m + 1)))
    (hq : q ≤ 200) (hc0 : 0 ≤ c) (hcq : c + q ≤ 100000) :
    evFn (tabT Try.prog) call 300 kpT 58 Try.f58 [.int .i64 su, .int .i64 q, .pointer (some ⟨9, 0, none⟩), .pointer (some ⟨10, 0, none⟩)] (Mr c m) = some (rowR Mr HD hit q 0 c m) := by
  have kp := kg58
  simp only [Prod.mk.injEq] at kp
  obtain ⟨kp1, kp2⟩ := kp
  simp only [evFn, Try.f58]
  simp [ec_skip, ec_label, ek_reg, ek_draw, ek_seq, ec_cond, ek_block, ec_loop, ec_exit, ec_ret, ec_scope, ek_nil, ek_op, opK_some, regK_some, seqK_normal, seqK_exit, seqK_ret, blockK_normal, blockK_exit, blockK_ret, evOp, vOp, hOpB, hOpU, hOp, hOpT, aAppendG_tab, aWanted, aYielded, opd, putT, closedV, aBin, intOp, sameK, mapO, joinR, hasAddr, boundOf, pushB, aAlloc, Value.cells, lookB, setB, Nat.beq_eq, tm_n_set, tm_get_set, tm_of_n, tm_of_get, tm_tr_set, tm_tr_of, cellV, putF, appR_eq, takeR_eq, dropR_eq, setR_eq, getR_eq, ↓C75, ↓C76, ↓C77, ↓C79, ↓C17, ↓C18, ↓C22, ↓C71, FA24_0, FA24_1, FA24_2, FA24_3, FA24_4, FA24_5, FA24_6, FA24_7, FA24_8, LD3, LD4, LD22, LD27, LDr, LD24, LEN22, IA22, tkc, cellAt]
  generalize hr : evLoop _ _ _ _ = r
  obtain ⟨z, A', H', rfl, hl, hmk, rfl, hz⟩ := loop_go (Q := Q112 (rowR Mr HD hit q 0 c m)) hr (I112 Mr HD hit (rowR Mr HD hit q 0 c m) su q) q (by omega) ⟨0, c, m, by omega, by omega, by omega, hc0, hcq, rfl, rfl, rfl, rfl, rfl, rfl, rfl, rfl, rfl, rfl⟩ (by
      clear hr
      rintro k A H ⟨i, c, m, him, hi0, hq1, hc0, hck, hres, rfl, hl, hmk, g0, g1, g2, g3, g8, g9⟩
      simp only [runC]
      cases k with
      | zero =>
        have hi : ¬ i < (q : Int) := by omega
        simp only [rowR] at hres
        simp [ec_skip, ec_label, ek_reg, ek_draw, ek_seq, ec_cond, ek_block, ec_loop, ec_exit, ec_ret, ec_scope, ek_nil, ek_op, opK_some, regK_some, seqK_normal, seqK_exit, seqK_ret, blockK_normal, blockK_exit, blockK_ret, evOp, vOp, hOpB, hOpU, hOp, hOpT, aAppendG_tab, aWanted, aYielded, opd, putT, closedV, aBin, intOp, sameK, mapO, joinR, hasAddr, boundOf, pushB, aAlloc, Value.cells, lookB, setB, Nat.beq_eq, tm_n_set, tm_get_set, tm_of_n, tm_of_get, tm_tr_set, tm_tr_of, cellV, putF, appR_eq, takeR_eq, dropR_eq, setR_eq, getR_eq, ↓C75, ↓C76, ↓C77, ↓C79, ↓C17, ↓C18, ↓C22, ↓C71, FA24_0, FA24_1, FA24_2, FA24_3, FA24_4, FA24_5, FA24_6, FA24_7, FA24_8, LD3, LD4, LD22, LD27, LDr, LD24, LEN22, IA22, tkc, cellAt, hl, hmk, g0, g1, g2, g3, g8, g9, hi]
        exact .inr ⟨by simp, by simp [tm_n_set, hl], rfl, by rw [← hres], .inl ⟨rfl, by rw [← hres]⟩⟩
      | succ k =>
        have hi : i < (q : Int) := by omega
        have hw : wrapI .i64 (i + 1) = i + 1 := wrapI_small (by omega) (by omega)
        have hwc : wrapI .i64 (c + 1) = c + 1 := wrapI_small (by omega) (by omega)
        have hst := fun n => ST3 (Mr c (m + 1)) 10 0 n [.int .i64 c] (h10 c (m + 1)) (by simp)
        simp only [List.set_cons_zero, hset] at hst
        have hy' := hy c i m
        simp only [placeV] at hy'
        cases hh : hit c i with
        | true =>
          rw [hh, if_pos rfl] at hy'
          simp only [rowR, hh, if_true] at hres
          simp [ec_skip, ec_label, ek_reg, ek_draw, ek_seq, ec_cond, ek_block, ec_loop, ec_exit, ec_ret, ec_scope, ek_nil, ek_op, opK_some, regK_some, seqK_normal, seqK_exit, seqK_ret, blockK_normal, blockK_exit, blockK_ret, evOp, vOp, hOpB, hOpU, hOp, hOpT, aAppendG_tab, aWanted, aYielded, opd, putT, closedV, aBin, intOp, sameK, mapO, joinR, hasAddr, boundOf, pushB, aAlloc, Value.cells, lookB, setB, Nat.beq_eq, tm_n_set, tm_get_set, tm_of_n, tm_of_get, tm_tr_set, tm_tr_of, cellV, putF, appR_eq, takeR_eq, dropR_eq, setR_eq, getR_eq, ↓C75, ↓C76, ↓C77, ↓C79, ↓C17, ↓C18, ↓C22, ↓C71, FA24_0, FA24_1, FA24_2, FA24_3, FA24_4, FA24_5, FA24_6, FA24_7, FA24_8, LD3, LD4, LD22, LD27, LDr, LD24, LEN22, IA22, tkc, cellAt, LD122, partsO, BD80, hl, hmk, g0, g1, g2, g3, g8, g9, hi, h9, h10, hy']
          exact .inr ⟨by simp, by simp [tm_n_set, hl], rfl, by rw [← hres], .inr ⟨rfl, by rw [← hres], by simp [tm_get_set, tm_n_set, hl]⟩⟩
        | false =>
          rw [hh, if_neg (by simp)] at hy'
          simp only [rowR, hh, Bool.false_eq_true, if_false] at hres
          simp [ec_skip, ec_label, ek_reg, ek_draw, ek_seq, ec_cond, ek_block, ec_loop, ec_exit, ec_ret, ec_scope, ek_nil, ek_op, opK_some, regK_some, seqK_normal, seqK_exit, seqK_ret, blockK_normal, blockK_exit, blockK_ret, evOp, vOp, hOpB, hOpU, hOp, hOpT, aAppendG_tab, aWanted, aYielded, opd, putT, closedV, aBin, intOp, sameK, mapO, joinR, hasAddr, boundOf, pushB, aAlloc, Value.cells, lookB, setB, Nat.beq_eq, tm_n_set, tm_get_set, tm_of_n, tm_of_get, tm_tr_set, tm_tr_of, cellV, putF, appR_eq, takeR_eq, dropR_eq, setR_eq, getR_eq, ↓C75, ↓C76, ↓C77, ↓C79, ↓C17, ↓C18, ↓C22, ↓C71, FA24_0, FA24_1, FA24_2, FA24_3, FA24_4, FA24_5, FA24_6, FA24_7, FA24_8, LD3, LD4, LD22, LD27, LDr, LD24, LEN22, IA22, tkc, cellAt, LD122, partsO, BD80, hl, hmk, g0, g1, g2, g3, g8, g9, hi, h9, h10, hy', hst, hwc]
          refine .inl ⟨rfl, k, rfl, i + 1, c + 1, m + 1, by omega, by omega, hq1, by omega, by omega, hres, rfl, ?_⟩
          simp [tm_get_set, tm_n_set, hl, g0, g1, g2, g3, g8, g9, hw])
  rcases hz with ⟨rfl, hz⟩ | ⟨rfl, hz, h6⟩
  · simp [ec_skip, ec_label, ek_reg, ek_draw, ek_seq, ec_cond, ek_block, ec_loop, ec_exit, ec_ret, ec_scope, ek_nil, ek_op, opK_some, regK_some, seqK_normal, seqK_exit, seqK_ret, blockK_normal, blockK_exit, blockK_ret, evOp, vOp, hOpB, hOpU, hOp, hOpT, aAppendG_tab, aWanted, aYielded, opd, putT, closedV, aBin, intOp, sameK, mapO, joinR, hasAddr, boundOf, pushB, aAlloc, Value.cells, lookB, setB, Nat.beq_eq, tm_n_set, tm_get_set, tm_of_n, tm_of_get, tm_tr_set, tm_tr_of, cellV, putF, appR_eq, takeR_eq, dropR_eq, setR_eq, getR_eq, ↓C75, ↓C76, ↓C77, ↓C79, ↓C17, ↓C18, ↓C22, ↓C71, FA24_0, FA24_1, FA24_2, FA24_3, FA24_4, FA24_5, FA24_6, FA24_7, FA24_8, LD3, LD4, LD22, LD27, LDr, LD24, LEN22, IA22, tkc, cellAt, finF, takeM, resV, hl, hmk, cleanedG, kp1, kp2]
    generalize rowR Mr HD hit q 0 c m = R at hz ⊢
    obtain ⟨a, b⟩ := R
    simp only at hz
    rw [hz]
  · simp [ec_skip, ec_label, ek_reg, ek_draw, ek_seq, ec_cond, ek_block, ec_loop, ec_exit, ec_ret, ec_scope, ek_nil, ek_op, opK_some, regK_some, seqK_normal, seqK_exit, seqK_ret, blockK_normal, blockK_exit, blockK_ret, evOp, vOp, hOpB, hOpU, hOp, hOpT, aAppendG_tab, aWanted, aYielded, opd, putT, closedV, aBin, intOp, sameK, mapO, joinR, hasAddr, boundOf, pushB, aAlloc, Value.cells, lookB, setB, Nat.beq_eq, tm_n_set, tm_get_set, tm_of_n, tm_of_get, tm_tr_set, tm_tr_of, cellV, putF, appR_eq, takeR_eq, dropR_eq, setR_eq, getR_eq, ↓C75, ↓C76, ↓C77, ↓C79, ↓C17, ↓C18, ↓C22, ↓C71, FA24_0, FA24_1, FA24_2, FA24_3, FA24_4, FA24_5, FA24_6, FA24_7, FA24_8, LD3, LD4, LD22, LD27, LDr, LD24, LEN22, IA22, tkc, cellAt, finF, takeM, resV, hl, hmk, h6, cleanedG, kp1, kp2]
    generalize rowR Mr HD hit q 0 c m = R at hz ⊢
    obtain ⟨a, b⟩ := R
    simp only at hz
    rw [hz]


end Go.Proofs.Ytdbpemmhkfbegaa
