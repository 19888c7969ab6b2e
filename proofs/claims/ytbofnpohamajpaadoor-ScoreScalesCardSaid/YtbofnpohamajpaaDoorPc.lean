/-
  What is proved: what limitsReached, unlimited and Points answer of every scale.
-/
import Derived.Test.YtbofnpohamajpaaDoorPb
namespace Go.Proofs.YtbofnpohamajpaaDoor
open Go.RowKit
set_option linter.unusedSimpArgs false
set_option linter.unusedVariables false

/-- How many limits from i on a value reaches, with those before. -/
def reach (cs : List Value) (v : Int) : Nat → Nat → Nat
  | 0, i => i
  | m + 1, i => if gi cs (i * 2) ≤ v then reach cs v m (i + 1) else i

def I9 (u : Value) (v : Int) (n : Nat) (cs : List Value) (m : Nat) (A : AF) (H : AH) : Prop := ∃ (i : Nat), i + m = n ∧ reach cs v m i = reach cs v n 0 ∧ A.tm.n = 22 ∧ A.marks = [] ∧ A.tm.get 5 = .int .i64 (i : Int) ∧ A.tm.get 0 = u ∧ A.tm.get 1 = .int .i64 v ∧ lookB H.bs 0 = some (.cells true cs)
def Q9 (v : Int) (n : Nat) (cs : List Value) (x : AX) (A' : AF) (H : AH) : Prop := x = .exit 0 ∧ A'.tm.n = 22 ∧ A'.marks = [] ∧ A'.tm.get 5 = .int .i64 (reach cs v n 0 : Nat)

set_option maxRecDepth 10000 in
set_option maxHeartbeats 8000000 in
theorem reach9_ev (call : Value → List Value → AH → Option (Value × AH)) {u : Value} {n : Nat} {v : Int} {cs : List Value} (hn : n ≤ 200) (hcs : okC cs (2 * n) = true)
    (hlen : aLen (tabT Tryd.prog) 23 u = some (.int .i64 n)) (hix : ∀ k : Nat, k < n → aIndexAddr (tabT Tryd.prog) 23 u (.int .i64 (k : Int)) = some (.pointer (some ⟨0, k * 2, none⟩))) :
    ∃ H', evFn (tabT Tryd.prog) call 300 kpT 14 Tryd.f14 [u, .int .i64 v] ⟨1, [(0, .cells true cs)]⟩ = some (.int .i64 (reach cs v n 0 : Nat), H') := by
  simp only [evFn, Tryd.f14]
  simp [ec_skip, ec_label, ek_reg, ek_draw, ek_seq, ec_cond, ek_block, ec_loop, ec_exit, ec_ret, ec_scope, ek_nil, ek_op, opK_some, regK_some, seqK_normal, seqK_exit, seqK_ret, blockK_normal, blockK_exit, blockK_ret, evOp, vOp, hOpB, hOpU, hOp, hOpT, aWanted, aYielded, opd, putT, closedV, aBin, intOp, sameK, mapO, joinR, hasAddr, boundOf, pushB, aAlloc, Value.cells, lookB, setB, Nat.beq_eq, tm_n_set, tm_get_set, tm_of_n, tm_of_get, tm_tr_set, tm_tr_of, cellV, putF, appR_eq, takeR_eq, dropR_eq, setR_eq, getR_eq, LD3, LD4, LD22, LD24, LD33, FA24_0, FA24_1, FA24_2, FA24_3, FA33_0, FA33_1, LEN22, ST33, ↓AL33]
  generalize hr : evLoop _ _ _ _ = rr
  obtain ⟨x, A', H', rfl, rfl, hl, hmk, hx⟩ := loop_go (Q := Q9 v n cs) hr (I9 u v n cs) n (by omega) (by
      clear hr
      refine ⟨0, by omega, rfl, by simp [tm_n_set, tm_of_n], rfl, ?_⟩
      simp [tm_get_set, tm_n_set, tm_of_n, tm_of_get, lookB, Nat.beq_eq]) (by
      clear hr
      rintro m A H ⟨i, him, hsc, hl, hmk, hc, h0, h1, H0⟩
      simp only [runC]
      cases m with
      | zero =>
        have hi : ¬ i < n := by omega
        rw [reach] at hsc
        simp [ec_skip, ec_label, ek_reg, ek_draw, ek_seq, ec_cond, ek_block, ec_loop, ec_exit, ec_ret, ec_scope, ek_nil, ek_op, opK_some, regK_some, seqK_normal, seqK_exit, seqK_ret, blockK_normal, blockK_exit, blockK_ret, evOp, vOp, hOpB, hOpU, hOp, hOpT, aWanted, aYielded, opd, putT, closedV, aBin, intOp, sameK, mapO, joinR, hasAddr, boundOf, pushB, aAlloc, Value.cells, lookB, setB, Nat.beq_eq, tm_n_set, tm_get_set, tm_of_n, tm_of_get, tm_tr_set, tm_tr_of, cellV, putF, appR_eq, takeR_eq, dropR_eq, setR_eq, getR_eq, LD3, LD4, LD22, LD24, LD33, FA24_0, FA24_1, FA24_2, FA24_3, FA33_0, FA33_1, LEN22, ST33, ↓AL33, hl, hmk, hc, h0, h1, H0, hlen, hi]
        exact .inr ⟨by simp, rfl, by simp [tm_n_set, hl], rfl, by simp [tm_get_set, tm_n_set, hl, hc, hsc]⟩
      | succ m =>
        have hi : i < n := by omega
        have hw : wrapI .i64 ((i : Int) + 1) = ((i + 1 : Nat) : Int) := by rw [wrapI_small (by omega) (by omega)]; rfl
        have p := hix i hi
        have c0 := okC_at hcs (j := i * 2) (by omega)
        rw [reach] at hsc
        by_cases hle : gi cs (i * 2) ≤ v
        · simp [hle] at hsc
          simp [ec_skip, ec_label, ek_reg, ek_draw, ek_seq, ec_cond, ek_block, ec_loop, ec_exit, ec_ret, ec_scope, ek_nil, ek_op, opK_some, regK_some, seqK_normal, seqK_exit, seqK_ret, blockK_normal, blockK_exit, blockK_ret, evOp, vOp, hOpB, hOpU, hOp, hOpT, aWanted, aYielded, opd, putT, closedV, aBin, intOp, sameK, mapO, joinR, hasAddr, boundOf, pushB, aAlloc, Value.cells, lookB, setB, Nat.beq_eq, tm_n_set, tm_get_set, tm_of_n, tm_of_get, tm_tr_set, tm_tr_of, cellV, putF, appR_eq, takeR_eq, dropR_eq, setR_eq, getR_eq, LD3, LD4, LD22, LD24, LD33, FA24_0, FA24_1, FA24_2, FA24_3, FA33_0, FA33_1, LEN22, ST33, ↓AL33, hl, hmk, hc, h0, h1, H0, hlen, hi, p, c0, hle]
          refine .inl ⟨rfl, m, rfl, i + 1, by omega, hsc, ?_⟩
          simp [tm_get_set, tm_n_set, hl, hc, h0, h1, hw, H0]
        · simp [hle] at hsc
          simp [ec_skip, ec_label, ek_reg, ek_draw, ek_seq, ec_cond, ek_block, ec_loop, ec_exit, ec_ret, ec_scope, ek_nil, ek_op, opK_some, regK_some, seqK_normal, seqK_exit, seqK_ret, blockK_normal, blockK_exit, blockK_ret, evOp, vOp, hOpB, hOpU, hOp, hOpT, aWanted, aYielded, opd, putT, closedV, aBin, intOp, sameK, mapO, joinR, hasAddr, boundOf, pushB, aAlloc, Value.cells, lookB, setB, Nat.beq_eq, tm_n_set, tm_get_set, tm_of_n, tm_of_get, tm_tr_set, tm_tr_of, cellV, putF, appR_eq, takeR_eq, dropR_eq, setR_eq, getR_eq, LD3, LD4, LD22, LD24, LD33, FA24_0, FA24_1, FA24_2, FA24_3, FA33_0, FA33_1, LEN22, ST33, ↓AL33, hl, hmk, hc, h0, h1, H0, hlen, hi, p, c0, hle]
          exact .inr ⟨by simp, rfl, by simp [tm_n_set, hl], rfl, by simp [tm_get_set, tm_n_set, hl, hc, hsc]⟩)
  simp [ec_skip, ec_label, ek_reg, ek_draw, ek_seq, ec_cond, ek_block, ec_loop, ec_exit, ec_ret, ec_scope, ek_nil, ek_op, opK_some, regK_some, seqK_normal, seqK_exit, seqK_ret, blockK_normal, blockK_exit, blockK_ret, evOp, vOp, hOpB, hOpU, hOp, hOpT, aWanted, aYielded, opd, putT, closedV, aBin, intOp, sameK, mapO, joinR, hasAddr, boundOf, pushB, aAlloc, Value.cells, lookB, setB, Nat.beq_eq, tm_n_set, tm_get_set, tm_of_n, tm_of_get, tm_tr_set, tm_tr_of, cellV, putF, appR_eq, takeR_eq, dropR_eq, setR_eq, getR_eq, LD3, LD4, LD22, LD24, LD33, FA24_0, FA24_1, FA24_2, FA24_3, FA33_0, FA33_1, LEN22, ST33, ↓AL33, finF, takeM, resV, hl, hmk, hx]

/-- The points by the base alone. -/
noncomputable def unl (b : Int) (d : Bool) (mi v : Int) : Int := if d then wrapI .i64 (wrapI .i64 (b * mi) * 2 ^ (min (if 20 < v then 20 else v).toNat 64)) else wrapI .i64 (wrapI .i64 (b * mi) * v)

set_option maxRecDepth 10000 in
set_option maxHeartbeats 8000000 in
theorem unl10_ev (call : Value → List Value → AH → Option (Value × AH)) {b : Int} {d : Bool} {u : Value} {r mi v : Int} {cs : List Value} (hv : 0 ≤ v) :
    ∃ H', evFn (tabT Tryd.prog) call 300 kpT 15 Tryd.f15 [scV b d u r, .int .i64 mi, .int .i64 v] ⟨1, [(0, .cells true cs)]⟩ = some (.int .i64 (unl b d mi v), H') := by
  simp only [evFn, Tryd.f15, scV]
  have hv' : ¬ (if 20 < v then (20 : Int) else v) < 0 := by split <;> omega
  have hb : IntKind.i64.bits = 64 := rfl
  cases d with
  | true => simp [ec_skip, ec_label, ek_reg, ek_draw, ek_seq, ec_cond, ek_block, ec_loop, ec_exit, ec_ret, ec_scope, ek_nil, ek_op, opK_some, regK_some, seqK_normal, seqK_exit, seqK_ret, blockK_normal, blockK_exit, blockK_ret, evOp, vOp, hOpB, hOpU, hOp, hOpT, aWanted, aYielded, opd, putT, closedV, aBin, intOp, sameK, mapO, joinR, hasAddr, boundOf, pushB, aAlloc, Value.cells, lookB, setB, Nat.beq_eq, tm_n_set, tm_get_set, tm_of_n, tm_of_get, tm_tr_set, tm_tr_of, cellV, putF, appR_eq, takeR_eq, dropR_eq, setR_eq, getR_eq, LD3, LD4, LD22, LD24, LD33, FA24_0, FA24_1, FA24_2, FA24_3, FA33_0, FA33_1, LEN22, ST33, ↓AL33, finF, takeM, resV, shOp, hv', hb, unl]
  | false => simp [ec_skip, ec_label, ek_reg, ek_draw, ek_seq, ec_cond, ek_block, ec_loop, ec_exit, ec_ret, ec_scope, ek_nil, ek_op, opK_some, regK_some, seqK_normal, seqK_exit, seqK_ret, blockK_normal, blockK_exit, blockK_ret, evOp, vOp, hOpB, hOpU, hOp, hOpT, aWanted, aYielded, opd, putT, closedV, aBin, intOp, sameK, mapO, joinR, hasAddr, boundOf, pushB, aAlloc, Value.cells, lookB, setB, Nat.beq_eq, tm_n_set, tm_get_set, tm_of_n, tm_of_get, tm_tr_set, tm_tr_of, cellV, putF, appR_eq, takeR_eq, dropR_eq, setR_eq, getR_eq, LD3, LD4, LD22, LD24, LD33, FA24_0, FA24_1, FA24_2, FA24_3, FA33_0, FA33_1, LEN22, ST33, ↓AL33, finF, takeM, resV, unl]

end Go.Proofs.YtbofnpohamajpaaDoor
