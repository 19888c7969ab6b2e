/-
  What is proved: the law's body ends with true for every scale, every number of minor points and every value.
-/
import Derived.Test.YtlinnmehicbomaaDoorPg
namespace Go.Proofs.YtlinnmehicbomaaDoor
open Go.RowKit
set_option linter.unusedSimpArgs false
set_option linter.unusedVariables false

theorem wr4 : wrT 4 = false := by kernel_rfl
theorem wr5 : wrT 5 = false := by kernel_rfl
theorem wr6 : wrT 6 = false := by kernel_rfl
set_option maxRecDepth 10000 in
set_option maxHeartbeats 8000000 in
theorem bodyL_ev {b : Int} {d : Bool} {r mi v : Int} {n : Nat} {cs : List Value} (hn : 20 < n) :
    ∃ H', evFn (tabT Tryd.prog) (inH S5) 300 kpT 3 Tryd.f3 [scV b d (limV n) r, .int .i64 mi, .int .i64 v] ⟨1, [(0, .cells true cs)]⟩ = some (.bool true, H') := by
  have hlen := limV_len n
  have hn' : (20 : Int) < n := by omega
  simp only [evFn, Tryd.f3, scV]
  generalize limV n = u at hlen
  simp [ec_skip, ec_label, ek_reg, ek_draw, ek_seq, ec_cond, ek_block, ec_loop, ec_exit, ec_ret, ec_scope, ek_nil, ek_op, opK_some, regK_some, seqK_normal, seqK_exit, seqK_ret, blockK_normal, blockK_exit, blockK_ret, evOp, vOp, hOpB, hOpU, hOp, hOpT, aWanted, aYielded, opd, putT, closedV, aBin, intOp, sameK, mapO, joinR, hasAddr, boundOf, pushB, aAlloc, Value.cells, lookB, setB, Nat.beq_eq, tm_n_set, tm_get_set, tm_of_n, tm_of_get, tm_tr_set, tm_tr_of, cellV, putF, appR_eq, takeR_eq, dropR_eq, setR_eq, getR_eq, LD3, LD4, LD22, LD24, LD33, FA24_0, FA24_1, FA24_2, FA24_3, FA33_0, FA33_1, LEN22, ST33, ↓AL33, tkc, finF, takeM, resV, hlen, hn, hn']

set_option maxRecDepth 10000 in
set_option maxHeartbeats 8000000 in
theorem body_core (call : Value → List Value → AH → Option (Value × AH)) {b : Int} {d : Bool} {u : Value} {r mi v : Int} {n : Nat} {cs : List Value} (hn : n ≤ 20) (hlen : aLen (tabT Tryd.prog) 22 u = some (.int .i64 n)) {q : Int}
    (h4 : ∀ H : AH, lookB H.bs 0 = some (.cells true cs) → call (.func (.func 4) #[] #[]) [.agg ⟨[.int .i64 b, .bool d, u, .int .i64 r]⟩, .int .i64 mi, .int .i64 v] H = some (.int .i64 q, H))
    (h5 : ∀ H : AH, lookB H.bs 0 = some (.cells true cs) → call (.func (.func 5) #[] #[]) [.agg ⟨[.int .i64 b, .bool d, u, .int .i64 r]⟩, .int .i64 mi, .int .i64 v] H = some (.int .i64 q, H))
    (h6 : ∀ H : AH, call (.func (.func 6) #[] #[]) [] H = some (.bool true, H)) :
    ∃ H', evFn (tabT Tryd.prog) call 300 kpT 3 Tryd.f3 [.agg ⟨[.int .i64 b, .bool d, u, .int .i64 r]⟩, .int .i64 mi, .int .i64 v] ⟨1, [(0, .cells true cs)]⟩ = some (.bool true, H') := by
  have hn' : ¬ (20 : Int) < n := by omega
  have hn2 : ¬ 20 < n := by omega
  simp only [evFn, Tryd.f3]
  simp [ec_skip, ec_label, ek_reg, ek_draw, ek_seq, ec_cond, ek_block, ec_loop, ec_exit, ec_ret, ec_scope, ek_nil, ek_op, opK_some, regK_some, seqK_normal, seqK_exit, seqK_ret, blockK_normal, blockK_exit, blockK_ret, evOp, vOp, hOpB, hOpU, hOp, hOpT, aWanted, aYielded, opd, putT, closedV, aBin, intOp, sameK, mapO, joinR, hasAddr, boundOf, pushB, aAlloc, Value.cells, lookB, setB, Nat.beq_eq, tm_n_set, tm_get_set, tm_of_n, tm_of_get, tm_tr_set, tm_tr_of, cellV, putF, appR_eq, takeR_eq, dropR_eq, setR_eq, getR_eq, LD3, LD4, LD22, LD24, LD33, FA24_0, FA24_1, FA24_2, FA24_3, FA33_0, FA33_1, LEN22, ST33, ↓AL33, tkc, finF, takeM, resV, hlen, hn', hn2]
  generalize hX : evDrawX _ _ _ _ _ = X
  obtain ⟨tm, rfl, hnn, t6⟩ := draw_ro (Pt := fun tm => tm.get 6 = .bool true) hX (by kernel_rfl) (by simp [decrK, Nat.blt_eq]) (by
    clear hX
    generalize befs _ = M
    simp [mapO, drRun, drOp, dr3, looks, guardT, tmpsOf, Op.operands, Call.operands, wantedR, gOf, finT, natMem, isNil, writesF, evOp, vOp, hOpB, hOpU, hOp, hOpT, opd, closedV, aBin, intOp, sameK, opdO, boundOf, undef, lookB, Nat.beq_eq, tm_n_set, tm_get_set, tm_of_n, tm_of_get, tm_tr_set, tm_tr_of, b02, b12, b32, roB, roK, newOnes, LD3, LD4, LD22, LD24, LD33, FA24_0, FA24_1, FA24_2, FA24_3, FA33_0, FA33_1, LEN22, ST33, ↓AL33, tkc, h4, h5, h6, Nat.ble_eq, hasR, wr4, wr5, wr6]
    refine ⟨by simp [dynOK, b02, b12, b32], by simp [wheap, news, b02, b12, b32]⟩)
  clear hX
  simp [ec_skip, ec_label, ek_reg, ek_draw, ek_seq, ec_cond, ek_block, ec_loop, ec_exit, ec_ret, ec_scope, ek_nil, ek_op, opK_some, regK_some, seqK_normal, seqK_exit, seqK_ret, blockK_normal, blockK_exit, blockK_ret, evOp, vOp, hOpB, hOpU, hOp, hOpT, aWanted, aYielded, opd, putT, closedV, aBin, intOp, sameK, mapO, joinR, hasAddr, boundOf, pushB, aAlloc, Value.cells, lookB, setB, Nat.beq_eq, tm_n_set, tm_get_set, tm_of_n, tm_of_get, tm_tr_set, tm_tr_of, cellV, putF, appR_eq, takeR_eq, dropR_eq, setR_eq, getR_eq, LD3, LD4, LD22, LD24, LD33, FA24_0, FA24_1, FA24_2, FA24_3, FA33_0, FA33_1, LEN22, ST33, ↓AL33, tkc, finF, takeM, resV, t6]

theorem body_ev {b : Int} {d : Bool} {r mi v : Int} {n : Nat} {cs : List Value} (hcs : okC cs (2 * n) = true) :
    ∃ H', evFn (tabT Tryd.prog) (inH S5) 300 kpT 3 Tryd.f3 [scV b d (limV n) r, .int .i64 mi, .int .i64 v] ⟨1, [(0, .cells true cs)]⟩ = some (.bool true, H') := by
  by_cases hn : 20 < n
  · exact bodyL_ev hn
  · exact body_core (inH S5) (by omega) (limV_len n) (q := pts b d r n cs mi v)
      (fun H h0 => inH_hd (orH_l (canP (by omega) hcs h0 4)))
      (fun H h0 => inH_hd (orH_r (canH_ne (by decide)) (orH_l (canP (by omega) hcs h0 5))))
      (fun H => inH_hd (orH_r (canH_ne (by decide)) (orH_r (canH_ne (by decide)) (awake6 H))))

end Go.Proofs.YtlinnmehicbomaaDoor
