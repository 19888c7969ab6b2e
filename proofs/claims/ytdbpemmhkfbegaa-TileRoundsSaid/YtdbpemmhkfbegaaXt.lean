/-
  What is proved: NewSource, and numbers brought into a range.
-/
import Derived.Test.YtdbpemmhkfbegaaXs
import Derived.Test.YtdbpemmhkfbegaaSu
namespace Go.Proofs.Ytdbpemmhkfbegaa
open Go.RowKit
set_option linter.unusedSimpArgs false
set_option linter.unusedVariables false

theorem LD37 (H : AH) (i off : Nat) : aLoad (tabT Try.prog) H 65 (.pointer (some ⟨i, off, none⟩)) = match lookB H.bs i with | some (.cells _ cs) => cs[off]? | _ => none := ldc (by kernel_rfl) H i off
theorem FA39_0 (i off : Nat) : aFieldAddr (tabT Try.prog) 69 (.pointer (some ⟨i, off, none⟩)) 0 = some (.pointer (some ⟨i, off + 0, none⟩)) := by kernel_rfl
theorem LENI (a : Option Addr) (n z : Nat) : aLen (tabT Try.prog) 22 (.slice a n z) = some (.int .i64 n) := lens (e := 3) (by kernel_rfl) a n z
theorem ST37 (H : AH) (i off : Nat) (v : Value) : aStore (tabT Try.prog) H 65 (.pointer (some ⟨i, off, none⟩)) v = match lookB H.bs i with
    | some (.cells false cs) => if Nat.beq v.cells.toList.length 1 && Nat.ble (off + v.cells.toList.length) cs.length && v.cells.toList.all cellV then some { H with bs := setB H.bs i (.cells false (putF cs off v.cells.toList)) } else none
    | _ => none := sti (by kernel_rfl) H i off v
theorem T3e : ∃ s b z ex, (tabT Try.prog) 3 = some ⟨s, b, z, .int .i64, ex⟩ := tdesc (by kernel_rfl)
theorem T37e : ∃ s b z ex, (tabT Try.prog) 65 = some ⟨s, b, z, .int .u64, ex⟩ := tdesc (by kernel_rfl)
theorem b64 : IntKind.u64.bits = 64 := rfl

/-- A source's number and its next state. -/
def BelOK (call : Value → List Value → AH → Option (Value × AH)) (f : FuncId) : Prop := ∀ (i : Nat) (n x : Int) (H : AH), 1 ≤ n → n ≤ 4611686018427387904 → MI H → lookB H.bs i = some (.cells false [.int .u64 x]) →
  call (.func (.func f) #[] #[]) [.pointer (some ⟨i, 0, none⟩), .int .i64 n] H = some (.int .i64 (belX x n), ⟨H.next, setB H.bs i (.cells false [.int .u64 (nxtX x)])⟩)

set_option maxRecDepth 10000 in
set_option maxHeartbeats 8000000 in
theorem gc5 : gcT 22 = false := by kernel_rfl
noncomputable def intoX (n m : Int) : Int := if n.tmod m < 0 then wrapI .i64 (n.tmod m + m) else n.tmod m
theorem intoX_range (n m : Int) (h1 : 1 ≤ m) (h2 : m ≤ 1000000) : 0 ≤ intoX n m ∧ intoX n m < m := by
  unfold intoX
  have h3 : n.tmod m < m := Int.tmod_lt_of_pos n (by omega)
  have h4 : -m < n.tmod m := by
    have := Int.tmod_lt_of_pos (-n) (show 0 < m by omega)
    rw [Int.neg_tmod] at this
    omega
  split
  · rw [wrapI_small (by omega) (by omega)]; omega
  · omega
set_option maxRecDepth 10000 in
set_option maxHeartbeats 8000000 in
theorem into_ev {L : Nat} (call : Value → List Value → AH → Option (Value × AH)) {n m : Int} {H : AH} (h : ¬ m = 0) : ∃ H', evFn (tabT Try.prog) call (L + 300) kpT 23 Try.f23 [.int .i64 n, .int .i64 m] H = some (.int .i64 (intoX n m), H') := by
  simp only [evFn, Try.f23, intoX]
  by_cases c : n.tmod m < 0
  · simp [ec_skip, ec_label, ek_reg, ek_draw, ek_seq, ec_cond, ek_block, ec_loop, ec_exit, ec_ret, ec_scope, ek_nil, ek_op, opK_some, regK_some, seqK_normal, seqK_exit, seqK_ret, blockK_normal, blockK_exit, blockK_ret, evOp, vOp, hOpB, hOpU, hOp, hOpT, aAppendG_tab, aWanted, aYielded, opd, putT, closedV, aBin, intOp, sameK, mapO, joinR, hasAddr, boundOf, pushB, aAlloc, Value.cells, lookB, setB, Nat.beq_eq, tm_n_set, tm_get_set, tm_of_n, tm_of_get, tm_tr_set, tm_tr_of, cellV, putF, appR_eq, takeR_eq, dropR_eq, setR_eq, getR_eq, LD3, cellAt, tkc, LD3, LD37, FA39_0, LENI, ST37, lookB_setB, shOp, b64, finF, takeM, resV, h, c]
  · simp [ec_skip, ec_label, ek_reg, ek_draw, ek_seq, ec_cond, ek_block, ec_loop, ec_exit, ec_ret, ec_scope, ek_nil, ek_op, opK_some, regK_some, seqK_normal, seqK_exit, seqK_ret, blockK_normal, blockK_exit, blockK_ret, evOp, vOp, hOpB, hOpU, hOp, hOpT, aAppendG_tab, aWanted, aYielded, opd, putT, closedV, aBin, intOp, sameK, mapO, joinR, hasAddr, boundOf, pushB, aAlloc, Value.cells, lookB, setB, Nat.beq_eq, tm_n_set, tm_get_set, tm_of_n, tm_of_get, tm_tr_set, tm_tr_of, cellV, putF, appR_eq, takeR_eq, dropR_eq, setR_eq, getR_eq, LD3, cellAt, tkc, LD3, LD37, FA39_0, LENI, ST37, lookB_setB, shOp, b64, finF, takeM, resV, h, c]

/-- The memory with a source in block 1. -/
def HS (cs : List Value) (x : Int) : AH := ⟨2, [(1, .cells false [.int .u64 x]), (0, .cells true cs)]⟩
theorem BD39 (c : Int) : aBuild (tabT Try.prog) 69 [(0, .int .u64 c)] = some (.agg #[.int .u64 c]) := by kernel_rfl
def I5 (u : Value) (n : Nat) (cs : List Value) (m : Nat) (A : AF) (H : AH) : Prop := ∃ (i : Nat) (x : Int), i + m = n ∧ A.tm.n = 41 ∧ A.marks = [] ∧ A.tm.get 4 = .int .i64 (i : Int) ∧ A.tm.get 0 = u ∧ A.tm.get 3 = .pointer (some ⟨1, 0, none⟩) ∧ H = HS cs x
def Q5 (cs : List Value) (x : AX) (A' : AF) (H : AH) : Prop := x = .exit 0 ∧ A'.tm.n = 41 ∧ A'.marks = [] ∧ A'.tm.get 3 = .pointer (some ⟨1, 0, none⟩) ∧ ∃ y, H = HS cs y

set_option maxRecDepth 10000 in
set_option maxHeartbeats 8000000 in
theorem newSource_ev (call : Value → List Value → AH → Option (Value × AH)) {L : Nat} {u : Value} {n : Nat} {cs : List Value} (hL : n < L) (hn : n ≤ 9223372036854775807) (hcs : okC cs n = true)
    (hlen : aLen (tabT Try.prog) 22 u = some (.int .i64 n)) (hix : ∀ k : Nat, k < n → aIndexAddr (tabT Try.prog) 22 u (.int .i64 (k : Int)) = some (.pointer (some ⟨0, k, none⟩))) :
    ∃ x, evFn (tabT Try.prog) call L kpT 22 Try.f22 [u] ⟨1, [(0, .cells true cs)]⟩ = some (.pointer (some ⟨1, 0, none⟩), HS cs x) := by
  obtain ⟨_, _, _, _, t3⟩ := T3e
  obtain ⟨_, _, _, _, t37⟩ := T37e
  simp only [evFn, Try.f22]
  simp [ec_skip, ec_label, ek_reg, ek_draw, ek_seq, ec_cond, ek_block, ec_loop, ec_exit, ec_ret, ec_scope, ek_nil, ek_op, opK_some, regK_some, seqK_normal, seqK_exit, seqK_ret, blockK_normal, blockK_exit, blockK_ret, evOp, vOp, hOpB, hOpU, hOp, hOpT, aAppendG_tab, aWanted, aYielded, opd, putT, closedV, aBin, intOp, sameK, mapO, joinR, hasAddr, boundOf, pushB, aAlloc, Value.cells, lookB, setB, Nat.beq_eq, tm_n_set, tm_get_set, tm_of_n, tm_of_get, tm_tr_set, tm_tr_of, cellV, putF, appR_eq, takeR_eq, dropR_eq, setR_eq, getR_eq, LD3, cellAt, tkc, LD3, LD37, FA39_0, LENI, ST37, t3, t37, lookB_setB, shOp, b64, partsO, BD39]
  generalize hr : evLoop _ _ _ _ = rr
  obtain ⟨x, A', H', rfl, rfl, hl, hmk, h3, y, rfl⟩ := loop_go (Q := Q5 cs) hr (I5 u n cs) n hL (by
      clear hr
      refine ⟨0, 2685821657736338717, by omega, by simp [tm_n_set, tm_of_n], rfl, ?_⟩
      simp [tm_get_set, tm_n_set, tm_of_n, tm_of_get, HS]) (by
      clear hr
      rintro m A H ⟨i, x, him, hl, hmk, h4, h0, h3, rfl⟩
      simp only [runC, HS]
      cases m with
      | zero =>
        have hi : ¬ i < n := by omega
        simp [ec_skip, ec_label, ek_reg, ek_draw, ek_seq, ec_cond, ek_block, ec_loop, ec_exit, ec_ret, ec_scope, ek_nil, ek_op, opK_some, regK_some, seqK_normal, seqK_exit, seqK_ret, blockK_normal, blockK_exit, blockK_ret, evOp, vOp, hOpB, hOpU, hOp, hOpT, aAppendG_tab, aWanted, aYielded, opd, putT, closedV, aBin, intOp, sameK, mapO, joinR, hasAddr, boundOf, pushB, aAlloc, Value.cells, lookB, setB, Nat.beq_eq, tm_n_set, tm_get_set, tm_of_n, tm_of_get, tm_tr_set, tm_tr_of, cellV, putF, appR_eq, takeR_eq, dropR_eq, setR_eq, getR_eq, LD3, cellAt, tkc, LD3, LD37, FA39_0, LENI, ST37, t3, t37, lookB_setB, shOp, b64, hl, hmk, h4, h0, h3, hlen, hi]
        exact .inr ⟨by simp, rfl, by simp [tm_n_set, hl], rfl, by simp [tm_get_set, tm_n_set, hl, h3], x, rfl⟩
      | succ m =>
        have hi : i < n := by omega
        have hw : wrapI .i64 ((i : Int) + 1) = ((i + 1 : Nat) : Int) := by rw [wrapI_small (by omega) (by omega)]; rfl
        have p := hix i hi
        have c0 := okC_at hcs (j := i) (by omega)
        simp [ec_skip, ec_label, ek_reg, ek_draw, ek_seq, ec_cond, ek_block, ec_loop, ec_exit, ec_ret, ec_scope, ek_nil, ek_op, opK_some, regK_some, seqK_normal, seqK_exit, seqK_ret, blockK_normal, blockK_exit, blockK_ret, evOp, vOp, hOpB, hOpU, hOp, hOpT, aAppendG_tab, aWanted, aYielded, opd, putT, closedV, aBin, intOp, sameK, mapO, joinR, hasAddr, boundOf, pushB, aAlloc, Value.cells, lookB, setB, Nat.beq_eq, tm_n_set, tm_get_set, tm_of_n, tm_of_get, tm_tr_set, tm_tr_of, cellV, putF, appR_eq, takeR_eq, dropR_eq, setR_eq, getR_eq, LD3, cellAt, tkc, LD3, LD37, FA39_0, LENI, ST37, t3, t37, lookB_setB, shOp, b64, hl, hmk, h4, h0, h3, hlen, hi]
        generalize hX : evDrawX _ _ _ _ _ = X
        obtain ⟨tma, rfl, tman, tma4, tma0, tma3⟩ := draw_any (H' := HS cs (wrapI .u64 (bits .xor .u64 x (wrapI .u64 (gi cs i)) * 11400714819323198485))) (Pt := fun tm => tm.get 4 = .int .i64 (i : Int) ∧ tm.get 0 = u ∧ tm.get 3 = .pointer (some ⟨1, 0, none⟩)) hX (by kernel_rfl) (by simp [decrK, Nat.blt_eq]) (by
          clear hX
          generalize hM : befs _ = M
          have o1 : ordB M 14 4 = true := by rw [← hM]; kernel_rfl
          have o2 : ordB M 14 8 = true := by rw [← hM]; kernel_rfl
          clear hM
          simp [mapO, drRun, drOp, dr3, looks, guardT, tmpsOf, Op.operands, Call.operands, wantedR, gOf, finT, natMem, isNil, writesF, evOp, vOp, hOpB, hOpU, hOp, hOpT, opd, closedV, aBin, intOp, sameK, opdO, boundOf, undef, lookB, Nat.beq_eq, tm_n_set, tm_get_set, tm_of_n, tm_of_get, tm_tr_set, tm_tr_of, b02, b12, b32, roB, roK, newOnes, LD3, LD37, FA39_0, LENI, ST37, t3, t37, shOp, b64, wheap, news, Value.cells, cellV, putF, setB, appR_eq, takeR_eq, dropR_eq, setR_eq, hl, h4, h0, h3, p, c0, cellAt]
          refine ⟨_, _, ⟨rfl, rfl⟩, by simp [dynOK, b02, b12, b32, b23, b03, o1, o2, Nat.blt_eq, Nat.beq_eq], by simp [wheap, news, b02, b12, b32, HS], by simp [finT, tm_get_set, tm_n_set, hl, h4, h0, h3]⟩)
        clear hX
        simp [tm_n_set, hl] at tman
        simp only [HS]
        simp [ec_skip, ec_label, ek_reg, ek_draw, ek_seq, ec_cond, ek_block, ec_loop, ec_exit, ec_ret, ec_scope, ek_nil, ek_op, opK_some, regK_some, seqK_normal, seqK_exit, seqK_ret, blockK_normal, blockK_exit, blockK_ret, evOp, vOp, hOpB, hOpU, hOp, hOpT, aAppendG_tab, aWanted, aYielded, opd, putT, closedV, aBin, intOp, sameK, mapO, joinR, hasAddr, boundOf, pushB, aAlloc, Value.cells, lookB, setB, Nat.beq_eq, tm_n_set, tm_get_set, tm_of_n, tm_of_get, tm_tr_set, tm_tr_of, cellV, putF, appR_eq, takeR_eq, dropR_eq, setR_eq, getR_eq, LD3, cellAt, tkc, LD3, LD37, FA39_0, LENI, ST37, t3, t37, lookB_setB, shOp, b64, hmk, tman, tma4, tma0, tma3]
        generalize hX : evDrawX _ _ _ _ _ = X
        obtain ⟨tmb, rfl, tmbn, tmb4, tmb0, tmb3⟩ := draw_any (H' := HS cs (bits .xor .u64 (wrapI .u64 (bits .xor .u64 x (wrapI .u64 (gi cs i)) * 11400714819323198485)) ((wrapI .u64 (bits .xor .u64 x (wrapI .u64 (gi cs i)) * 11400714819323198485)).fdiv 536870912))) (Pt := fun tm => tm.get 4 = .int .i64 (i : Int) ∧ tm.get 0 = u ∧ tm.get 3 = .pointer (some ⟨1, 0, none⟩)) hX (by kernel_rfl) (by simp [decrK, Nat.blt_eq]) (by
          clear hX
          generalize hM : befs _ = M
          have o1 : ordB M 13 4 = true := by rw [← hM]; kernel_rfl
          have o2 : ordB M 13 8 = true := by rw [← hM]; kernel_rfl
          clear hM
          simp [mapO, drRun, drOp, dr3, looks, guardT, tmpsOf, Op.operands, Call.operands, wantedR, gOf, finT, natMem, isNil, writesF, evOp, vOp, hOpB, hOpU, hOp, hOpT, opd, closedV, aBin, intOp, sameK, opdO, boundOf, undef, lookB, Nat.beq_eq, tm_n_set, tm_get_set, tm_of_n, tm_of_get, tm_tr_set, tm_tr_of, b02, b12, b32, roB, roK, newOnes, LD3, LD37, FA39_0, LENI, ST37, t3, t37, shOp, b64, wheap, news, Value.cells, cellV, putF, setB, appR_eq, takeR_eq, dropR_eq, setR_eq, tman, tma4, tma0, tma3, p, c0, cellAt]
          refine ⟨_, _, ⟨rfl, rfl⟩, by simp [dynOK, b02, b12, b32, b23, b03, o1, o2, Nat.blt_eq, Nat.beq_eq], by simp [wheap, news, b02, b12, b32, HS], by simp [finT, tm_get_set, tm_n_set, tman, tma4, tma0, tma3]⟩)
        clear hX
        simp [tm_n_set, tman] at tmbn
        simp only [HS]
        simp [ec_skip, ec_label, ek_reg, ek_draw, ek_seq, ec_cond, ek_block, ec_loop, ec_exit, ec_ret, ec_scope, ek_nil, ek_op, opK_some, regK_some, seqK_normal, seqK_exit, seqK_ret, blockK_normal, blockK_exit, blockK_ret, evOp, vOp, hOpB, hOpU, hOp, hOpT, aAppendG_tab, aWanted, aYielded, opd, putT, closedV, aBin, intOp, sameK, mapO, joinR, hasAddr, boundOf, pushB, aAlloc, Value.cells, lookB, setB, Nat.beq_eq, tm_n_set, tm_get_set, tm_of_n, tm_of_get, tm_tr_set, tm_tr_of, cellV, putF, appR_eq, takeR_eq, dropR_eq, setR_eq, getR_eq, LD3, cellAt, tkc, LD3, LD37, FA39_0, LENI, ST37, t3, t37, lookB_setB, shOp, b64, hmk, tmbn, tmb4, tmb0, tmb3]
        refine ⟨_, _, _, ⟨rfl, rfl, rfl⟩, .inl ⟨rfl, m, rfl, i + 1, _, by omega, by simp [tm_n_set, tmbn], rfl, ?_, ?_, ?_, rfl⟩⟩
        · simp [tm_get_set, tm_n_set, tmbn, tmb4, hw]
        · simp [tm_get_set, tm_n_set, tmbn, tmb0]
        · simp [tm_get_set, tm_n_set, tmbn, tmb3])
  simp [ec_skip, ec_label, ek_reg, ek_draw, ek_seq, ec_cond, ek_block, ec_loop, ec_exit, ec_ret, ec_scope, ek_nil, ek_op, opK_some, regK_some, seqK_normal, seqK_exit, seqK_ret, blockK_normal, blockK_exit, blockK_ret, evOp, vOp, hOpB, hOpU, hOp, hOpT, aAppendG_tab, aWanted, aYielded, opd, putT, closedV, aBin, intOp, sameK, mapO, joinR, hasAddr, boundOf, pushB, aAlloc, Value.cells, lookB, setB, Nat.beq_eq, tm_n_set, tm_get_set, tm_of_n, tm_of_get, tm_tr_set, tm_tr_of, cellV, putF, appR_eq, takeR_eq, dropR_eq, setR_eq, getR_eq, LD3, cellAt, tkc, LD3, LD37, FA39_0, LENI, ST37, t3, t37, lookB_setB, shOp, b64, finF, takeM, resV, hl, hmk, h3, cleanedG, gc5, HS, hasAddr]


end Go.Proofs.Ytdbpemmhkfbegaa
