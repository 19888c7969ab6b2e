/-
  What is proved: what CheckScale, limitsReached, unlimited and Points answer of a scale whose limits are nil.
-/
import Derived.Test.YtbofnpohamajpaaDoorQb
namespace Go.Proofs.YtbofnpohamajpaaDoor
open Go.RowKit
set_option linter.unusedSimpArgs false
set_option linter.unusedVariables false

theorem LEN22n : aLen (tabT Tryd.prog) 23 (.slice none 0 0) = some (.int .i64 0) := LEN22 none 0 0

set_option maxRecDepth 10000 in
set_option maxHeartbeats 8000000 in
theorem check_nil (call : Value → List Value → AH → Option (Value × AH)) (hb : BtwOK call 22) {b : Int} {d : Bool} {r : Int} : ∃ H', evFn (tabT Tryd.prog) call 300 kpT 12 Tryd.f12 [scV b d (.slice none 0 0) r] ⟨0, []⟩ = some (.int .i64 (scErr b r 0 []), H') := by
  unfold BtwOK at hb
  simp only [evFn, Tryd.f12, scV, scErr]
  cases e1 : btw b 0 1000 with
  | false => simp [ec_skip, ec_label, ek_reg, ek_draw, ek_seq, ec_cond, ek_block, ec_loop, ec_exit, ec_ret, ec_scope, ek_nil, ek_op, opK_some, regK_some, seqK_normal, seqK_exit, seqK_ret, blockK_normal, blockK_exit, blockK_ret, evOp, vOp, hOpB, hOpU, hOp, hOpT, aWanted, aYielded, opd, putT, closedV, aBin, intOp, sameK, mapO, joinR, hasAddr, boundOf, pushB, aAlloc, Value.cells, lookB, setB, Nat.beq_eq, tm_n_set, tm_get_set, tm_of_n, tm_of_get, tm_tr_set, tm_tr_of, cellV, putF, appR_eq, takeR_eq, dropR_eq, setR_eq, getR_eq, LD3, LD4, LD22, LD24, LD33, LD37, FA24_0, FA24_1, FA24_2, FA24_3, FA33_0, FA33_1, FA39_0, LEN22, LENI, ST33, ST37, ST23, ST25, ↓AL33, ↓AL25, tkc, finF, takeM, resV, hb, e1]
  | true =>
  cases e2 : btw r 1 10000 with
  | false => simp [ec_skip, ec_label, ek_reg, ek_draw, ek_seq, ec_cond, ek_block, ec_loop, ec_exit, ec_ret, ec_scope, ek_nil, ek_op, opK_some, regK_some, seqK_normal, seqK_exit, seqK_ret, blockK_normal, blockK_exit, blockK_ret, evOp, vOp, hOpB, hOpU, hOp, hOpT, aWanted, aYielded, opd, putT, closedV, aBin, intOp, sameK, mapO, joinR, hasAddr, boundOf, pushB, aAlloc, Value.cells, lookB, setB, Nat.beq_eq, tm_n_set, tm_get_set, tm_of_n, tm_of_get, tm_tr_set, tm_tr_of, cellV, putF, appR_eq, takeR_eq, dropR_eq, setR_eq, getR_eq, LD3, LD4, LD22, LD24, LD33, LD37, FA24_0, FA24_1, FA24_2, FA24_3, FA33_0, FA33_1, FA39_0, LEN22, LENI, ST33, ST37, ST23, ST25, ↓AL33, ↓AL25, tkc, finF, takeM, resV, hb, e1, e2]
  | true => simp [ec_skip, ec_label, ek_reg, ek_draw, ek_seq, ec_cond, ek_block, ec_loop, ec_exit, ec_ret, ec_scope, ek_nil, ek_op, opK_some, regK_some, seqK_normal, seqK_exit, seqK_ret, blockK_normal, blockK_exit, blockK_ret, evOp, vOp, hOpB, hOpU, hOp, hOpT, aWanted, aYielded, opd, putT, closedV, aBin, intOp, sameK, mapO, joinR, hasAddr, boundOf, pushB, aAlloc, Value.cells, lookB, setB, Nat.beq_eq, tm_n_set, tm_get_set, tm_of_n, tm_of_get, tm_tr_set, tm_tr_of, cellV, putF, appR_eq, takeR_eq, dropR_eq, setR_eq, getR_eq, LD3, LD4, LD22, LD24, LD33, LD37, FA24_0, FA24_1, FA24_2, FA24_3, FA33_0, FA33_1, FA39_0, LEN22, LENI, ST33, ST37, ST23, ST25, ↓AL33, ↓AL25, tkc, finF, takeM, resV, hb, e1, e2, LEN22n, evLoop, runC, scan]

set_option maxRecDepth 10000 in
set_option maxHeartbeats 8000000 in
theorem reach_nil (call : Value → List Value → AH → Option (Value × AH)) {v : Int} : ∃ H', evFn (tabT Tryd.prog) call 300 kpT 14 Tryd.f14 [.slice none 0 0, .int .i64 v] ⟨0, []⟩ = some (.int .i64 (reach [] v 0 0 : Nat), H') := by
  simp only [evFn, Tryd.f14]
  simp [ec_skip, ec_label, ek_reg, ek_draw, ek_seq, ec_cond, ek_block, ec_loop, ec_exit, ec_ret, ec_scope, ek_nil, ek_op, opK_some, regK_some, seqK_normal, seqK_exit, seqK_ret, blockK_normal, blockK_exit, blockK_ret, evOp, vOp, hOpB, hOpU, hOp, hOpT, aWanted, aYielded, opd, putT, closedV, aBin, intOp, sameK, mapO, joinR, hasAddr, boundOf, pushB, aAlloc, Value.cells, lookB, setB, Nat.beq_eq, tm_n_set, tm_get_set, tm_of_n, tm_of_get, tm_tr_set, tm_tr_of, cellV, putF, appR_eq, takeR_eq, dropR_eq, setR_eq, getR_eq, LD3, LD4, LD22, LD24, LD33, LD37, FA24_0, FA24_1, FA24_2, FA24_3, FA33_0, FA33_1, FA39_0, LEN22, LENI, ST33, ST37, ST23, ST25, ↓AL33, ↓AL25, tkc, finF, takeM, resV, LEN22n, evLoop, runC, reach]

set_option maxRecDepth 10000 in
set_option maxHeartbeats 8000000 in
theorem unl_nil (call : Value → List Value → AH → Option (Value × AH)) {b : Int} {d : Bool} {r mi v : Int} (hv : 0 ≤ v) :
    ∃ H', evFn (tabT Tryd.prog) call 300 kpT 15 Tryd.f15 [scV b d (.slice none 0 0) r, .int .i64 mi, .int .i64 v] ⟨0, []⟩ = some (.int .i64 (unl b d mi v), H') := by
  simp only [evFn, Tryd.f15, scV]
  have hv' : ¬ (if 20 < v then (20 : Int) else v) < 0 := by split <;> omega
  have hb : IntKind.i64.bits = 64 := rfl
  cases d with
  | true => simp [ec_skip, ec_label, ek_reg, ek_draw, ek_seq, ec_cond, ek_block, ec_loop, ec_exit, ec_ret, ec_scope, ek_nil, ek_op, opK_some, regK_some, seqK_normal, seqK_exit, seqK_ret, blockK_normal, blockK_exit, blockK_ret, evOp, vOp, hOpB, hOpU, hOp, hOpT, aWanted, aYielded, opd, putT, closedV, aBin, intOp, sameK, mapO, joinR, hasAddr, boundOf, pushB, aAlloc, Value.cells, lookB, setB, Nat.beq_eq, tm_n_set, tm_get_set, tm_of_n, tm_of_get, tm_tr_set, tm_tr_of, cellV, putF, appR_eq, takeR_eq, dropR_eq, setR_eq, getR_eq, LD3, LD4, LD22, LD24, LD33, LD37, FA24_0, FA24_1, FA24_2, FA24_3, FA33_0, FA33_1, FA39_0, LEN22, LENI, ST33, ST37, ST23, ST25, ↓AL33, ↓AL25, tkc, finF, takeM, resV, shOp, hv', hb, unl]
  | false => simp [ec_skip, ec_label, ek_reg, ek_draw, ek_seq, ec_cond, ek_block, ec_loop, ec_exit, ec_ret, ec_scope, ek_nil, ek_op, opK_some, regK_some, seqK_normal, seqK_exit, seqK_ret, blockK_normal, blockK_exit, blockK_ret, evOp, vOp, hOpB, hOpU, hOp, hOpT, aWanted, aYielded, opd, putT, closedV, aBin, intOp, sameK, mapO, joinR, hasAddr, boundOf, pushB, aAlloc, Value.cells, lookB, setB, Nat.beq_eq, tm_n_set, tm_get_set, tm_of_n, tm_of_get, tm_tr_set, tm_tr_of, cellV, putF, appR_eq, takeR_eq, dropR_eq, setR_eq, getR_eq, LD3, LD4, LD22, LD24, LD33, LD37, FA24_0, FA24_1, FA24_2, FA24_3, FA33_0, FA33_1, FA39_0, LEN22, LENI, ST33, ST37, ST23, ST25, ↓AL33, ↓AL25, tkc, finF, takeM, resV, unl]

set_option maxRecDepth 10000 in
set_option maxHeartbeats 8000000 in
theorem points_nil (call : Value → List Value → AH → Option (Value × AH)) {b : Int} {d : Bool} {r mi v : Int} {e q : Int} (hb : BtwOK call 13)
    (hC : ∀ H : AH, call (.func (.func 12) #[] #[]) [.agg ⟨[.int .i64 b, .bool d, .slice none 0 0, .int .i64 r]⟩] H = some (.int .i64 e, H))
    (hR : ∀ H : AH, call (.func (.func 14) #[] #[]) [.slice none 0 0, .int .i64 v] H = some (.int .i64 0, H))
    (hU : 0 ≤ v → ∀ H : AH, call (.func (.func 15) #[] #[]) [.agg ⟨[.int .i64 b, .bool d, .slice none 0 0, .int .i64 r]⟩, .int .i64 mi, .int .i64 v] H = some (.int .i64 q, H)) :
    ∃ H', evFn (tabT Tryd.prog) call 300 kpT 7 Tryd.f7 [scV b d (.slice none 0 0) r, .int .i64 mi, .int .i64 v] ⟨0, []⟩ = some (.int .i64 (ptsOf e 0 q 0 [] mi v), H') := by
  unfold BtwOK at hb
  simp only [evFn, Tryd.f7, scV, ptsOf]
  by_cases e1 : e = 0
  rotate_left
  · have e1' : (e != 0) = true := by simpa using e1
    simp [ec_skip, ec_label, ek_reg, ek_draw, ek_seq, ec_cond, ek_block, ec_loop, ec_exit, ec_ret, ec_scope, ek_nil, ek_op, opK_some, regK_some, seqK_normal, seqK_exit, seqK_ret, blockK_normal, blockK_exit, blockK_ret, evOp, vOp, hOpB, hOpU, hOp, hOpT, aWanted, aYielded, opd, putT, closedV, aBin, intOp, sameK, mapO, joinR, hasAddr, boundOf, pushB, aAlloc, Value.cells, lookB, setB, Nat.beq_eq, tm_n_set, tm_get_set, tm_of_n, tm_of_get, tm_tr_set, tm_tr_of, cellV, putF, appR_eq, takeR_eq, dropR_eq, setR_eq, getR_eq, LD3, LD4, LD22, LD24, LD33, LD37, FA24_0, FA24_1, FA24_2, FA24_3, FA33_0, FA33_1, FA39_0, LEN22, LENI, ST33, ST37, ST23, ST25, ↓AL33, ↓AL25, tkc, ↓CALL7, ↓CALL9, finF, takeM, resV, hb, hC, e1, e1']
  subst e1
  cases e2 : btw mi 0 1000 with
  | false => simp [ec_skip, ec_label, ek_reg, ek_draw, ek_seq, ec_cond, ek_block, ec_loop, ec_exit, ec_ret, ec_scope, ek_nil, ek_op, opK_some, regK_some, seqK_normal, seqK_exit, seqK_ret, blockK_normal, blockK_exit, blockK_ret, evOp, vOp, hOpB, hOpU, hOp, hOpT, aWanted, aYielded, opd, putT, closedV, aBin, intOp, sameK, mapO, joinR, hasAddr, boundOf, pushB, aAlloc, Value.cells, lookB, setB, Nat.beq_eq, tm_n_set, tm_get_set, tm_of_n, tm_of_get, tm_tr_set, tm_tr_of, cellV, putF, appR_eq, takeR_eq, dropR_eq, setR_eq, getR_eq, LD3, LD4, LD22, LD24, LD33, LD37, FA24_0, FA24_1, FA24_2, FA24_3, FA33_0, FA33_1, FA39_0, LEN22, LENI, ST33, ST37, ST23, ST25, ↓AL33, ↓AL25, tkc, ↓CALL7, ↓CALL9, finF, takeM, resV, hb, hC, e2]
  | true =>
  cases e3 : btw v 0 1073741824 with
  | false => simp [ec_skip, ec_label, ek_reg, ek_draw, ek_seq, ec_cond, ek_block, ec_loop, ec_exit, ec_ret, ec_scope, ek_nil, ek_op, opK_some, regK_some, seqK_normal, seqK_exit, seqK_ret, blockK_normal, blockK_exit, blockK_ret, evOp, vOp, hOpB, hOpU, hOp, hOpT, aWanted, aYielded, opd, putT, closedV, aBin, intOp, sameK, mapO, joinR, hasAddr, boundOf, pushB, aAlloc, Value.cells, lookB, setB, Nat.beq_eq, tm_n_set, tm_get_set, tm_of_n, tm_of_get, tm_tr_set, tm_tr_of, cellV, putF, appR_eq, takeR_eq, dropR_eq, setR_eq, getR_eq, LD3, LD4, LD22, LD24, LD33, LD37, FA24_0, FA24_1, FA24_2, FA24_3, FA33_0, FA33_1, FA39_0, LEN22, LENI, ST33, ST37, ST23, ST25, ↓AL33, ↓AL25, tkc, ↓CALL7, ↓CALL9, finF, takeM, resV, hb, hC, e2, e3]
  | true =>
  have hv : 0 ≤ v := by simp only [btw, Bool.and_eq_true, decide_eq_true_eq] at e3; exact e3.1
  have hU' := hU hv
  clear hU
  simp [ec_skip, ec_label, ek_reg, ek_draw, ek_seq, ec_cond, ek_block, ec_loop, ec_exit, ec_ret, ec_scope, ek_nil, ek_op, opK_some, regK_some, seqK_normal, seqK_exit, seqK_ret, blockK_normal, blockK_exit, blockK_ret, evOp, vOp, hOpB, hOpU, hOp, hOpT, aWanted, aYielded, opd, putT, closedV, aBin, intOp, sameK, mapO, joinR, hasAddr, boundOf, pushB, aAlloc, Value.cells, lookB, setB, Nat.beq_eq, tm_n_set, tm_get_set, tm_of_n, tm_of_get, tm_tr_set, tm_tr_of, cellV, putF, appR_eq, takeR_eq, dropR_eq, setR_eq, getR_eq, LD3, LD4, LD22, LD24, LD33, LD37, FA24_0, FA24_1, FA24_2, FA24_3, FA33_0, FA33_1, FA39_0, LEN22, LENI, ST33, ST37, ST23, ST25, ↓AL33, ↓AL25, tkc, ↓CALL7, ↓CALL9, finF, takeM, resV, hb, hC, hR, hU', LEN22n, e2, e3]

end Go.Proofs.YtbofnpohamajpaaDoor
