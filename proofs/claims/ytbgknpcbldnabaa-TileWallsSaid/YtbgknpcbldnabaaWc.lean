/-
  What is proved: what the document's own draw answers; the program's shuffle of an array.
-/
import Derived.Test.YtbgknpcbldnabaaWb
namespace Go.Proofs.Ytbgknpcbldnabaa
open Go.RowKit
set_option linter.unusedSimpArgs false
set_option linter.unusedVariables false

theorem kp14 : (kpT 14, gcT 14) = (false, false) := by kernel_rfl

noncomputable def IRd (x : Int) (n : Nat) (H0 : AH) (m : Nat) (A : AF) (H : AH) : Prop := ∃ k : Nat, k + m = 2 ∧ A.tm.n = 26 ∧ A.marks = [] ∧ A.tm.get 0 = .int .u64 (it k x) ∧ A.tm.get 1 = .int .i64 (n : Int) ∧ A.tm.get 6 = .int .i64 (lim n) ∧ H = H0 ∧ ∀ j, 1 ≤ j → j ≤ k → ¬ wd (it j x) < lim n
noncomputable def QRd (x : Int) (n : Nat) (H0 : AH) (y : AX) (A' : AF) (H : AH) : Prop := y = .ret ∧ A'.tm.n = 26 ∧ A'.marks = [] ∧ A'.tm.get 4 = .int .i64 (drw n x : Int) ∧ A'.tm.get 5 = .int .u64 (nxs n x) ∧ H = H0
set_option maxRecDepth 10000 in
set_option maxHeartbeats 8000000 in
theorem rdraw_ev (call : Value → List Value → AH → Option (Value × AH)) (x : Int) (n : Nat) (h1 : 1 ≤ n) (h2 : n ≤ 144) (H : AH)
    (hword : ∀ (y : Int), call (.func (.func 33) #[] #[]) [.int .u64 y] H = some (.tuple #[.int .i64 (wd (stepW y)), .int .u64 (stepW y)], H)) :
    ∃ H', evFn (tabT Try.prog) call 300 kpT 17 Try.f17 [.int .u64 x, .int .i64 (n : Int)] H = some (.tuple #[.int .i64 (drw n x : Int), .int .u64 (nxs n x)], H') := by
  have kp := kp17
  simp only [Prod.mk.injEq] at kp
  obtain ⟨kp1, kp2⟩ := kp
  have lr := limR h1 h2
  have n0 : ¬ (n : Int) = 0 := by omega
  have nz : ¬ n = 0 := by omega
  simp only [evFn, Try.f17]
  simp [ec_skip, ec_label, ek_reg, ek_draw, ek_seq, ec_cond, ek_block, ec_loop, ec_exit, ec_ret, ec_scope, ek_nil, ek_op, opK_some, regK_some, seqK_normal, seqK_exit, seqK_ret, blockK_normal, blockK_exit, blockK_ret, evOp, vOp, hOpB, hOpU, hOp, hOpT, aAppendG_tab, aWanted, aYielded, opd, putT, closedV, aBin, intOp, sameK, mapO, joinR, hasAddr, boundOf, pushB, aAlloc, Value.cells, lookB, setB, Nat.beq_eq, tm_n_set, tm_get_set, tm_of_n, tm_of_get, tm_tr_set, tm_tr_of, cellV, putF, appR_eq, takeR_eq, dropR_eq, setR_eq, getR_eq, ↓C75, ↓C76, ↓C77, ↓C79, ↓C17, ↓C18, ↓C22, ↓C71, FA24_0, FA24_1, FA24_2, FA24_3, FA24_4, FA24_5, FA24_6, FA24_7, FA24_8, LD3, LD4, LD22, LD27, LDr, LD24, LEN22, IA22, tkc, cellAt, n0, nz, lr]
  generalize hr : evLoop _ _ _ _ = r
  obtain ⟨y, A', H', rfl, rfl, hl, hmk, g4, g5, rfl⟩ := loop_go (Q := QRd x n H) hr (IRd x n H) 2 (by omega) ⟨0, by omega, rfl, rfl, rfl, rfl, rfl, rfl, fun j a b => by omega⟩ (by
    clear hr
    rintro m A H' ⟨k, hkm, hl, hmk, g0, g1, g6, rfl, hrej⟩
    simp only [runC]
    have hw := hword (it k x)
    by_cases hacc : wd (it (k + 1) x) < lim n
    · have e := nxs_it (n := n) (x := x) (k := k) (by omega) hacc hrej
      simp only [it] at hacc e
      have dq := drw_eq h1 h2 x
      rw [← e] at dq
      simp [ec_skip, ec_label, ek_reg, ek_draw, ek_seq, ec_cond, ek_block, ec_loop, ec_exit, ec_ret, ec_scope, ek_nil, ek_op, opK_some, regK_some, seqK_normal, seqK_exit, seqK_ret, blockK_normal, blockK_exit, blockK_ret, evOp, vOp, hOpB, hOpU, hOp, hOpT, aAppendG_tab, aWanted, aYielded, opd, putT, closedV, aBin, intOp, sameK, mapO, joinR, hasAddr, boundOf, pushB, aAlloc, Value.cells, lookB, setB, Nat.beq_eq, tm_n_set, tm_get_set, tm_of_n, tm_of_get, tm_tr_set, tm_tr_of, cellV, putF, appR_eq, takeR_eq, dropR_eq, setR_eq, getR_eq, ↓C75, ↓C76, ↓C77, ↓C79, ↓C17, ↓C18, ↓C22, ↓C71, FA24_0, FA24_1, FA24_2, FA24_3, FA24_4, FA24_5, FA24_6, FA24_7, FA24_8, LD3, LD4, LD22, LD27, LDr, LD24, LEN22, IA22, tkc, cellAt, ↓Cword, hl, hmk, g0, g1, g6, hw, hacc, n0, nz, dq]
      refine .inr ⟨by simp, rfl, by simp [tm_n_set, hl], rfl, by simp [tm_get_set, tm_n_set, hl], by simp [tm_get_set, tm_n_set, hl, e], rfl⟩
    · cases m with
      | zero =>
        obtain rfl : k = 2 := by omega
        exact absurd (it3_lt h1 h2 x (hrej 1 (by omega) (by omega)) (hrej 2 (by omega) (by omega))) hacc
      | succ m =>
        have hacc2 := hacc
        simp only [it] at hacc2
        simp [ec_skip, ec_label, ek_reg, ek_draw, ek_seq, ec_cond, ek_block, ec_loop, ec_exit, ec_ret, ec_scope, ek_nil, ek_op, opK_some, regK_some, seqK_normal, seqK_exit, seqK_ret, blockK_normal, blockK_exit, blockK_ret, evOp, vOp, hOpB, hOpU, hOp, hOpT, aAppendG_tab, aWanted, aYielded, opd, putT, closedV, aBin, intOp, sameK, mapO, joinR, hasAddr, boundOf, pushB, aAlloc, Value.cells, lookB, setB, Nat.beq_eq, tm_n_set, tm_get_set, tm_of_n, tm_of_get, tm_tr_set, tm_tr_of, cellV, putF, appR_eq, takeR_eq, dropR_eq, setR_eq, getR_eq, ↓C75, ↓C76, ↓C77, ↓C79, ↓C17, ↓C18, ↓C22, ↓C71, FA24_0, FA24_1, FA24_2, FA24_3, FA24_4, FA24_5, FA24_6, FA24_7, FA24_8, LD3, LD4, LD22, LD27, LDr, LD24, LEN22, IA22, tkc, cellAt, ↓Cword, hl, hmk, g0, g1, g6, hw, hacc2]
        refine .inl ⟨rfl, m, rfl, k + 1, by omega, ?_⟩
        simp [tm_get_set, tm_n_set, hl, g1, g6, hmk, it]
        intro j a b
        by_cases hj : j = k + 1
        · subst hj; simpa using hacc
        · simpa using hrej j a (by omega))
  simp [ec_skip, ec_label, ek_reg, ek_draw, ek_seq, ec_cond, ek_block, ec_loop, ec_exit, ec_ret, ec_scope, ek_nil, ek_op, opK_some, regK_some, seqK_normal, seqK_exit, seqK_ret, blockK_normal, blockK_exit, blockK_ret, evOp, vOp, hOpB, hOpU, hOp, hOpT, aAppendG_tab, aWanted, aYielded, opd, putT, closedV, aBin, intOp, sameK, mapO, joinR, hasAddr, boundOf, pushB, aAlloc, Value.cells, lookB, setB, Nat.beq_eq, tm_n_set, tm_get_set, tm_of_n, tm_of_get, tm_tr_set, tm_tr_of, cellV, putF, appR_eq, takeR_eq, dropR_eq, setR_eq, getR_eq, ↓C75, ↓C76, ↓C77, ↓C79, ↓C17, ↓C18, ↓C22, ↓C71, FA24_0, FA24_1, FA24_2, FA24_3, FA24_4, FA24_5, FA24_6, FA24_7, FA24_8, LD3, LD4, LD22, LD27, LDr, LD24, LEN22, IA22, tkc, cellAt, hl, hmk, g4, g5, finF, takeM, resV, cleanedG, hasAddr, kp1, kp2]

/-! ### exchanges -/
def upd (f : Nat → Int) (i : Nat) (v : Int) : Nat → Int := fun k => if k = i then v else f k
def swp (f : Nat → Int) (i j : Nat) : Nat → Int := upd (upd f i (f j)) j (f i)
theorem intsL_set (f : Nat → Int) (n i : Nat) (v : Int) : (intsL f n).set i (.int .i64 v) = intsL (upd f i v) n := by
  apply List.ext_getElem?
  intro k
  rw [List.getElem?_set, intsL_len]
  by_cases hk : k < n
  · by_cases e : i = k
    · subst e; rw [if_pos rfl, if_pos hk]; rw [intsL_at _ _ _ hk]; simp only [upd, if_true]
    · rw [if_neg e, intsL_at _ _ _ hk, intsL_at _ _ _ hk]
      have e' : ¬ k = i := fun h => e h.symm
      simp only [upd, e', if_false]
  · rw [List.getElem?_eq_none (l := intsL (upd f i v) n) (by rw [intsL_len]; omega), List.getElem?_eq_none (l := intsL f n) (by rw [intsL_len]; omega)]
    split
    · rename_i e; subst e; rw [if_neg hk]
    · rfl
/-- The exchanges of a shuffle, from place i on downwards. -/
noncomputable def shF : Nat → (Nat → Int) → Int → (Nat → Int) × Int
  | 0, f, x => (f, x)
  | i + 1, f, x => shF i (swp f (i + 1) (drw (i + 2) x)) (nxs (i + 2) x)
noncomputable def arrB (f : Nat → Int) : ABlk := .cells false (intsL f 144)

end Go.Proofs.Ytbgknpcbldnabaa
