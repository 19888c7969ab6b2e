/-
  What is proved: both Same answer alike of any two sets, if the lists are compared as the calls in them say.
-/
import Derived.Test.YtkoppbbmdjhaoaaHm
import Derived.Test.YtkoppbbmdjhaoaaJe
namespace Go.Proofs.Ytkoppbbmdjhaoaa
open Go.RowKit
set_option linter.unusedSimpArgs false

theorem F23 : tabF Try.prog 23 = some Try.f23 := by kernel_rfl
theorem F24 : tabF Try.prog 24 = some Try.f24 := by kernel_rfl

def mkSet (s : SV) (x y : Value) : Value := .agg ⟨[.int .i64 s.p, x, .int .i64 s.w, .int .i64 s.d, .int .i64 s.f, .int .i64 s.c, .int .i64 s.m, .int .i64 s.de, y]⟩

def sameB (s t : SV) (b1 b8 : Bool) : Bool := decide (s.p = t.p) && b1 && decide (s.w = t.w) && decide (s.d = t.d) && decide (s.f = t.f) && decide (s.c = t.c) && decide (s.m = t.m) && decide (s.de = t.de) && b8

set_option maxRecDepth 10000 in
set_option maxHeartbeats 8000000 in
theorem tsame_ev (call : Value → List Value → AH → Option (Value × AH)) (s t : SV) (x1 x8 y1 y8 : Value) (b1 b8 : Bool) (nx : Nat) (bs : List (Nat × ABlk))
    (h1 : ∀ a b, call (.func (.func 81) #[] #[]) [x1, y1] ⟨nx + 2, (nx + 1, .cells false a) :: (nx, .cells false b) :: bs⟩ = some (.bool b1, ⟨nx + 2, (nx + 1, .cells false a) :: (nx, .cells false b) :: bs⟩))
    (h8 : ∀ a b, call (.func (.func 81) #[] #[]) [x8, y8] ⟨nx + 2, (nx + 1, .cells false a) :: (nx, .cells false b) :: bs⟩ = some (.bool b8, ⟨nx + 2, (nx + 1, .cells false a) :: (nx, .cells false b) :: bs⟩)) :
    evFn (tabT Try.prog) call 300 kpT 23 Try.f23 [mkSet s x1 x8, mkSet t y1 y8] ⟨nx, bs⟩ = some (.bool (sameB s t b1 b8), ⟨nx + 2, below nx bs⟩) := by
  simp only [evFn, Try.f23, mkSet, sameB]
  by_cases c0 : s.p = t.p
  rotate_left
  · have d0 : (s.p == t.p) = false := by simpa using c0
    have e0 : (s.p != t.p) = true := by simpa using c0
    simp [ec_skip, ec_label, ek_reg, ek_draw, ek_seq, ec_cond, ek_block, ec_loop, ec_exit, ec_ret, ek_nil, ek_op, opK_some, regK_some, seqK_normal, seqK_exit, seqK_ret, blockK_normal, blockK_exit, blockK_ret, evOp, vOp, hOp, aWanted, aY, boolOf, opd, putT, closedV, undef, aBin, intOp, sameK, mapO, joinR, hasAddr, pushB, aAlloc, Value.cells, T3, T4, T22, FA24_0, FA24_1, FA24_2, FA24_3, FA24_4, FA24_5, FA24_6, FA24_7, FA24_8, LD3, LD4, LD22, LD27, LDr, LD24, LEN22, IA22, cellAt, lookB, Nat.beq_eq, takeCells, getT, setT, finF, takeM, resV, getT_set, setT_length, cleaned, kpT, below, Nat.blt_eq, h1, h8, c0, d0, e0]
  cases b1
  · simp [ec_skip, ec_label, ek_reg, ek_draw, ek_seq, ec_cond, ek_block, ec_loop, ec_exit, ec_ret, ek_nil, ek_op, opK_some, regK_some, seqK_normal, seqK_exit, seqK_ret, blockK_normal, blockK_exit, blockK_ret, evOp, vOp, hOp, aWanted, aY, boolOf, opd, putT, closedV, undef, aBin, intOp, sameK, mapO, joinR, hasAddr, pushB, aAlloc, Value.cells, T3, T4, T22, FA24_0, FA24_1, FA24_2, FA24_3, FA24_4, FA24_5, FA24_6, FA24_7, FA24_8, LD3, LD4, LD22, LD27, LDr, LD24, LEN22, IA22, cellAt, lookB, Nat.beq_eq, takeCells, getT, setT, finF, takeM, resV, getT_set, setT_length, cleaned, kpT, below, Nat.blt_eq, h1, h8, c0]
  by_cases c2 : s.w = t.w
  rotate_left
  · have d2 : (s.w == t.w) = false := by simpa using c2
    have e2 : (s.w != t.w) = true := by simpa using c2
    simp [ec_skip, ec_label, ek_reg, ek_draw, ek_seq, ec_cond, ek_block, ec_loop, ec_exit, ec_ret, ek_nil, ek_op, opK_some, regK_some, seqK_normal, seqK_exit, seqK_ret, blockK_normal, blockK_exit, blockK_ret, evOp, vOp, hOp, aWanted, aY, boolOf, opd, putT, closedV, undef, aBin, intOp, sameK, mapO, joinR, hasAddr, pushB, aAlloc, Value.cells, T3, T4, T22, FA24_0, FA24_1, FA24_2, FA24_3, FA24_4, FA24_5, FA24_6, FA24_7, FA24_8, LD3, LD4, LD22, LD27, LDr, LD24, LEN22, IA22, cellAt, lookB, Nat.beq_eq, takeCells, getT, setT, finF, takeM, resV, getT_set, setT_length, cleaned, kpT, below, Nat.blt_eq, h1, h8, c0, c2, d2, e2]
  by_cases c3 : s.d = t.d
  rotate_left
  · have d3 : (s.d == t.d) = false := by simpa using c3
    have e3 : (s.d != t.d) = true := by simpa using c3
    simp [ec_skip, ec_label, ek_reg, ek_draw, ek_seq, ec_cond, ek_block, ec_loop, ec_exit, ec_ret, ek_nil, ek_op, opK_some, regK_some, seqK_normal, seqK_exit, seqK_ret, blockK_normal, blockK_exit, blockK_ret, evOp, vOp, hOp, aWanted, aY, boolOf, opd, putT, closedV, undef, aBin, intOp, sameK, mapO, joinR, hasAddr, pushB, aAlloc, Value.cells, T3, T4, T22, FA24_0, FA24_1, FA24_2, FA24_3, FA24_4, FA24_5, FA24_6, FA24_7, FA24_8, LD3, LD4, LD22, LD27, LDr, LD24, LEN22, IA22, cellAt, lookB, Nat.beq_eq, takeCells, getT, setT, finF, takeM, resV, getT_set, setT_length, cleaned, kpT, below, Nat.blt_eq, h1, h8, c0, c2, c3, d3, e3]
  by_cases c4 : s.f = t.f
  rotate_left
  · have d4 : (s.f == t.f) = false := by simpa using c4
    have e4 : (s.f != t.f) = true := by simpa using c4
    simp [ec_skip, ec_label, ek_reg, ek_draw, ek_seq, ec_cond, ek_block, ec_loop, ec_exit, ec_ret, ek_nil, ek_op, opK_some, regK_some, seqK_normal, seqK_exit, seqK_ret, blockK_normal, blockK_exit, blockK_ret, evOp, vOp, hOp, aWanted, aY, boolOf, opd, putT, closedV, undef, aBin, intOp, sameK, mapO, joinR, hasAddr, pushB, aAlloc, Value.cells, T3, T4, T22, FA24_0, FA24_1, FA24_2, FA24_3, FA24_4, FA24_5, FA24_6, FA24_7, FA24_8, LD3, LD4, LD22, LD27, LDr, LD24, LEN22, IA22, cellAt, lookB, Nat.beq_eq, takeCells, getT, setT, finF, takeM, resV, getT_set, setT_length, cleaned, kpT, below, Nat.blt_eq, h1, h8, c0, c2, c3, c4, d4, e4]
  by_cases c5 : s.c = t.c
  rotate_left
  · have d5 : (s.c == t.c) = false := by simpa using c5
    have e5 : (s.c != t.c) = true := by simpa using c5
    simp [ec_skip, ec_label, ek_reg, ek_draw, ek_seq, ec_cond, ek_block, ec_loop, ec_exit, ec_ret, ek_nil, ek_op, opK_some, regK_some, seqK_normal, seqK_exit, seqK_ret, blockK_normal, blockK_exit, blockK_ret, evOp, vOp, hOp, aWanted, aY, boolOf, opd, putT, closedV, undef, aBin, intOp, sameK, mapO, joinR, hasAddr, pushB, aAlloc, Value.cells, T3, T4, T22, FA24_0, FA24_1, FA24_2, FA24_3, FA24_4, FA24_5, FA24_6, FA24_7, FA24_8, LD3, LD4, LD22, LD27, LDr, LD24, LEN22, IA22, cellAt, lookB, Nat.beq_eq, takeCells, getT, setT, finF, takeM, resV, getT_set, setT_length, cleaned, kpT, below, Nat.blt_eq, h1, h8, c0, c2, c3, c4, c5, d5, e5]
  by_cases c6 : s.m = t.m
  rotate_left
  · have d6 : (s.m == t.m) = false := by simpa using c6
    have e6 : (s.m != t.m) = true := by simpa using c6
    simp [ec_skip, ec_label, ek_reg, ek_draw, ek_seq, ec_cond, ek_block, ec_loop, ec_exit, ec_ret, ek_nil, ek_op, opK_some, regK_some, seqK_normal, seqK_exit, seqK_ret, blockK_normal, blockK_exit, blockK_ret, evOp, vOp, hOp, aWanted, aY, boolOf, opd, putT, closedV, undef, aBin, intOp, sameK, mapO, joinR, hasAddr, pushB, aAlloc, Value.cells, T3, T4, T22, FA24_0, FA24_1, FA24_2, FA24_3, FA24_4, FA24_5, FA24_6, FA24_7, FA24_8, LD3, LD4, LD22, LD27, LDr, LD24, LEN22, IA22, cellAt, lookB, Nat.beq_eq, takeCells, getT, setT, finF, takeM, resV, getT_set, setT_length, cleaned, kpT, below, Nat.blt_eq, h1, h8, c0, c2, c3, c4, c5, c6, d6, e6]
  by_cases c7 : s.de = t.de
  rotate_left
  · have d7 : (s.de == t.de) = false := by simpa using c7
    have e7 : (s.de != t.de) = true := by simpa using c7
    simp [ec_skip, ec_label, ek_reg, ek_draw, ek_seq, ec_cond, ek_block, ec_loop, ec_exit, ec_ret, ek_nil, ek_op, opK_some, regK_some, seqK_normal, seqK_exit, seqK_ret, blockK_normal, blockK_exit, blockK_ret, evOp, vOp, hOp, aWanted, aY, boolOf, opd, putT, closedV, undef, aBin, intOp, sameK, mapO, joinR, hasAddr, pushB, aAlloc, Value.cells, T3, T4, T22, FA24_0, FA24_1, FA24_2, FA24_3, FA24_4, FA24_5, FA24_6, FA24_7, FA24_8, LD3, LD4, LD22, LD27, LDr, LD24, LEN22, IA22, cellAt, lookB, Nat.beq_eq, takeCells, getT, setT, finF, takeM, resV, getT_set, setT_length, cleaned, kpT, below, Nat.blt_eq, h1, h8, c0, c2, c3, c4, c5, c6, c7, d7, e7]
  cases b8
  · simp [ec_skip, ec_label, ek_reg, ek_draw, ek_seq, ec_cond, ek_block, ec_loop, ec_exit, ec_ret, ek_nil, ek_op, opK_some, regK_some, seqK_normal, seqK_exit, seqK_ret, blockK_normal, blockK_exit, blockK_ret, evOp, vOp, hOp, aWanted, aY, boolOf, opd, putT, closedV, undef, aBin, intOp, sameK, mapO, joinR, hasAddr, pushB, aAlloc, Value.cells, T3, T4, T22, FA24_0, FA24_1, FA24_2, FA24_3, FA24_4, FA24_5, FA24_6, FA24_7, FA24_8, LD3, LD4, LD22, LD27, LDr, LD24, LEN22, IA22, cellAt, lookB, Nat.beq_eq, takeCells, getT, setT, finF, takeM, resV, getT_set, setT_length, cleaned, kpT, below, Nat.blt_eq, h1, h8, c0, c2, c3, c4, c5, c6, c7]
  simp [ec_skip, ec_label, ek_reg, ek_draw, ek_seq, ec_cond, ek_block, ec_loop, ec_exit, ec_ret, ek_nil, ek_op, opK_some, regK_some, seqK_normal, seqK_exit, seqK_ret, blockK_normal, blockK_exit, blockK_ret, evOp, vOp, hOp, aWanted, aY, boolOf, opd, putT, closedV, undef, aBin, intOp, sameK, mapO, joinR, hasAddr, pushB, aAlloc, Value.cells, T3, T4, T22, FA24_0, FA24_1, FA24_2, FA24_3, FA24_4, FA24_5, FA24_6, FA24_7, FA24_8, LD3, LD4, LD22, LD27, LDr, LD24, LEN22, IA22, cellAt, lookB, Nat.beq_eq, takeCells, getT, setT, finF, takeM, resV, getT_set, setT_length, cleaned, kpT, below, Nat.blt_eq, h1, h8, c0, c2, c3, c4, c5, c6, c7]

set_option maxRecDepth 10000 in
set_option maxHeartbeats 8000000 in
theorem rsame_ev (call : Value → List Value → AH → Option (Value × AH)) (s t : SV) (x1 x8 y1 y8 : Value) (b1 b8 : Bool) (nx : Nat) (bs : List (Nat × ABlk))
    (h1 : ∀ a b, call (.func (.func 82) #[] #[]) [x1, y1] ⟨nx + 2, (nx + 1, .cells false a) :: (nx, .cells false b) :: bs⟩ = some (.bool b1, ⟨nx + 2, (nx + 1, .cells false a) :: (nx, .cells false b) :: bs⟩))
    (h8 : ∀ a b, call (.func (.func 82) #[] #[]) [x8, y8] ⟨nx + 2, (nx + 1, .cells false a) :: (nx, .cells false b) :: bs⟩ = some (.bool b8, ⟨nx + 2, (nx + 1, .cells false a) :: (nx, .cells false b) :: bs⟩)) :
    evFn (tabT Try.prog) call 300 kpT 24 Try.f24 [mkSet s x1 x8, mkSet t y1 y8] ⟨nx, bs⟩ = some (.bool (sameB s t b1 b8), ⟨nx + 2, below nx bs⟩) := by
  simp only [evFn, Try.f24, mkSet, sameB]
  by_cases c0 : s.p = t.p
  rotate_left
  · have d0 : (s.p == t.p) = false := by simpa using c0
    have e0 : (s.p != t.p) = true := by simpa using c0
    simp [ec_skip, ec_label, ek_reg, ek_draw, ek_seq, ec_cond, ek_block, ec_loop, ec_exit, ec_ret, ek_nil, ek_op, opK_some, regK_some, seqK_normal, seqK_exit, seqK_ret, blockK_normal, blockK_exit, blockK_ret, evOp, vOp, hOp, aWanted, aY, boolOf, opd, putT, closedV, undef, aBin, intOp, sameK, mapO, joinR, hasAddr, pushB, aAlloc, Value.cells, T3, T4, T22, FA24_0, FA24_1, FA24_2, FA24_3, FA24_4, FA24_5, FA24_6, FA24_7, FA24_8, LD3, LD4, LD22, LD27, LDr, LD24, LEN22, IA22, cellAt, lookB, Nat.beq_eq, takeCells, getT, setT, finF, takeM, resV, getT_set, setT_length, cleaned, kpT, below, Nat.blt_eq, h1, h8, c0, d0, e0]
  by_cases c1 : s.w = t.w
  rotate_left
  · have d1 : (s.w == t.w) = false := by simpa using c1
    have e1 : (s.w != t.w) = true := by simpa using c1
    simp [ec_skip, ec_label, ek_reg, ek_draw, ek_seq, ec_cond, ek_block, ec_loop, ec_exit, ec_ret, ek_nil, ek_op, opK_some, regK_some, seqK_normal, seqK_exit, seqK_ret, blockK_normal, blockK_exit, blockK_ret, evOp, vOp, hOp, aWanted, aY, boolOf, opd, putT, closedV, undef, aBin, intOp, sameK, mapO, joinR, hasAddr, pushB, aAlloc, Value.cells, T3, T4, T22, FA24_0, FA24_1, FA24_2, FA24_3, FA24_4, FA24_5, FA24_6, FA24_7, FA24_8, LD3, LD4, LD22, LD27, LDr, LD24, LEN22, IA22, cellAt, lookB, Nat.beq_eq, takeCells, getT, setT, finF, takeM, resV, getT_set, setT_length, cleaned, kpT, below, Nat.blt_eq, h1, h8, c0, c1, d1, e1]
  by_cases c2 : s.d = t.d
  rotate_left
  · have d2 : (s.d == t.d) = false := by simpa using c2
    have e2 : (s.d != t.d) = true := by simpa using c2
    simp [ec_skip, ec_label, ek_reg, ek_draw, ek_seq, ec_cond, ek_block, ec_loop, ec_exit, ec_ret, ek_nil, ek_op, opK_some, regK_some, seqK_normal, seqK_exit, seqK_ret, blockK_normal, blockK_exit, blockK_ret, evOp, vOp, hOp, aWanted, aY, boolOf, opd, putT, closedV, undef, aBin, intOp, sameK, mapO, joinR, hasAddr, pushB, aAlloc, Value.cells, T3, T4, T22, FA24_0, FA24_1, FA24_2, FA24_3, FA24_4, FA24_5, FA24_6, FA24_7, FA24_8, LD3, LD4, LD22, LD27, LDr, LD24, LEN22, IA22, cellAt, lookB, Nat.beq_eq, takeCells, getT, setT, finF, takeM, resV, getT_set, setT_length, cleaned, kpT, below, Nat.blt_eq, h1, h8, c0, c1, c2, d2, e2]
  by_cases c3 : s.f = t.f
  rotate_left
  · have d3 : (s.f == t.f) = false := by simpa using c3
    have e3 : (s.f != t.f) = true := by simpa using c3
    simp [ec_skip, ec_label, ek_reg, ek_draw, ek_seq, ec_cond, ek_block, ec_loop, ec_exit, ec_ret, ek_nil, ek_op, opK_some, regK_some, seqK_normal, seqK_exit, seqK_ret, blockK_normal, blockK_exit, blockK_ret, evOp, vOp, hOp, aWanted, aY, boolOf, opd, putT, closedV, undef, aBin, intOp, sameK, mapO, joinR, hasAddr, pushB, aAlloc, Value.cells, T3, T4, T22, FA24_0, FA24_1, FA24_2, FA24_3, FA24_4, FA24_5, FA24_6, FA24_7, FA24_8, LD3, LD4, LD22, LD27, LDr, LD24, LEN22, IA22, cellAt, lookB, Nat.beq_eq, takeCells, getT, setT, finF, takeM, resV, getT_set, setT_length, cleaned, kpT, below, Nat.blt_eq, h1, h8, c0, c1, c2, c3, d3, e3]
  by_cases c4 : s.c = t.c
  rotate_left
  · have d4 : (s.c == t.c) = false := by simpa using c4
    have e4 : (s.c != t.c) = true := by simpa using c4
    simp [ec_skip, ec_label, ek_reg, ek_draw, ek_seq, ec_cond, ek_block, ec_loop, ec_exit, ec_ret, ek_nil, ek_op, opK_some, regK_some, seqK_normal, seqK_exit, seqK_ret, blockK_normal, blockK_exit, blockK_ret, evOp, vOp, hOp, aWanted, aY, boolOf, opd, putT, closedV, undef, aBin, intOp, sameK, mapO, joinR, hasAddr, pushB, aAlloc, Value.cells, T3, T4, T22, FA24_0, FA24_1, FA24_2, FA24_3, FA24_4, FA24_5, FA24_6, FA24_7, FA24_8, LD3, LD4, LD22, LD27, LDr, LD24, LEN22, IA22, cellAt, lookB, Nat.beq_eq, takeCells, getT, setT, finF, takeM, resV, getT_set, setT_length, cleaned, kpT, below, Nat.blt_eq, h1, h8, c0, c1, c2, c3, c4, d4, e4]
  by_cases c5 : s.m = t.m
  rotate_left
  · have d5 : (s.m == t.m) = false := by simpa using c5
    have e5 : (s.m != t.m) = true := by simpa using c5
    simp [ec_skip, ec_label, ek_reg, ek_draw, ek_seq, ec_cond, ek_block, ec_loop, ec_exit, ec_ret, ek_nil, ek_op, opK_some, regK_some, seqK_normal, seqK_exit, seqK_ret, blockK_normal, blockK_exit, blockK_ret, evOp, vOp, hOp, aWanted, aY, boolOf, opd, putT, closedV, undef, aBin, intOp, sameK, mapO, joinR, hasAddr, pushB, aAlloc, Value.cells, T3, T4, T22, FA24_0, FA24_1, FA24_2, FA24_3, FA24_4, FA24_5, FA24_6, FA24_7, FA24_8, LD3, LD4, LD22, LD27, LDr, LD24, LEN22, IA22, cellAt, lookB, Nat.beq_eq, takeCells, getT, setT, finF, takeM, resV, getT_set, setT_length, cleaned, kpT, below, Nat.blt_eq, h1, h8, c0, c1, c2, c3, c4, c5, d5, e5]
  by_cases c6 : s.de = t.de
  rotate_left
  · have d6 : (s.de == t.de) = false := by simpa using c6
    have e6 : (s.de != t.de) = true := by simpa using c6
    simp [ec_skip, ec_label, ek_reg, ek_draw, ek_seq, ec_cond, ek_block, ec_loop, ec_exit, ec_ret, ek_nil, ek_op, opK_some, regK_some, seqK_normal, seqK_exit, seqK_ret, blockK_normal, blockK_exit, blockK_ret, evOp, vOp, hOp, aWanted, aY, boolOf, opd, putT, closedV, undef, aBin, intOp, sameK, mapO, joinR, hasAddr, pushB, aAlloc, Value.cells, T3, T4, T22, FA24_0, FA24_1, FA24_2, FA24_3, FA24_4, FA24_5, FA24_6, FA24_7, FA24_8, LD3, LD4, LD22, LD27, LDr, LD24, LEN22, IA22, cellAt, lookB, Nat.beq_eq, takeCells, getT, setT, finF, takeM, resV, getT_set, setT_length, cleaned, kpT, below, Nat.blt_eq, h1, h8, c0, c1, c2, c3, c4, c5, c6, d6, e6]
  cases b1
  · simp [ec_skip, ec_label, ek_reg, ek_draw, ek_seq, ec_cond, ek_block, ec_loop, ec_exit, ec_ret, ek_nil, ek_op, opK_some, regK_some, seqK_normal, seqK_exit, seqK_ret, blockK_normal, blockK_exit, blockK_ret, evOp, vOp, hOp, aWanted, aY, boolOf, opd, putT, closedV, undef, aBin, intOp, sameK, mapO, joinR, hasAddr, pushB, aAlloc, Value.cells, T3, T4, T22, FA24_0, FA24_1, FA24_2, FA24_3, FA24_4, FA24_5, FA24_6, FA24_7, FA24_8, LD3, LD4, LD22, LD27, LDr, LD24, LEN22, IA22, cellAt, lookB, Nat.beq_eq, takeCells, getT, setT, finF, takeM, resV, getT_set, setT_length, cleaned, kpT, below, Nat.blt_eq, h1, h8, c0, c1, c2, c3, c4, c5, c6]
  cases b8
  · simp [ec_skip, ec_label, ek_reg, ek_draw, ek_seq, ec_cond, ek_block, ec_loop, ec_exit, ec_ret, ek_nil, ek_op, opK_some, regK_some, seqK_normal, seqK_exit, seqK_ret, blockK_normal, blockK_exit, blockK_ret, evOp, vOp, hOp, aWanted, aY, boolOf, opd, putT, closedV, undef, aBin, intOp, sameK, mapO, joinR, hasAddr, pushB, aAlloc, Value.cells, T3, T4, T22, FA24_0, FA24_1, FA24_2, FA24_3, FA24_4, FA24_5, FA24_6, FA24_7, FA24_8, LD3, LD4, LD22, LD27, LDr, LD24, LEN22, IA22, cellAt, lookB, Nat.beq_eq, takeCells, getT, setT, finF, takeM, resV, getT_set, setT_length, cleaned, kpT, below, Nat.blt_eq, h1, h8, c0, c1, c2, c3, c4, c5, c6]
  simp [ec_skip, ec_label, ek_reg, ek_draw, ek_seq, ec_cond, ek_block, ec_loop, ec_exit, ec_ret, ek_nil, ek_op, opK_some, regK_some, seqK_normal, seqK_exit, seqK_ret, blockK_normal, blockK_exit, blockK_ret, evOp, vOp, hOp, aWanted, aY, boolOf, opd, putT, closedV, undef, aBin, intOp, sameK, mapO, joinR, hasAddr, pushB, aAlloc, Value.cells, T3, T4, T22, FA24_0, FA24_1, FA24_2, FA24_3, FA24_4, FA24_5, FA24_6, FA24_7, FA24_8, LD3, LD4, LD22, LD27, LDr, LD24, LEN22, IA22, cellAt, lookB, Nat.beq_eq, takeCells, getT, setT, finF, takeM, resV, getT_set, setT_length, cleaned, kpT, below, Nat.blt_eq, h1, h8, c0, c1, c2, c3, c4, c5, c6]

end Go.Proofs.Ytkoppbbmdjhaoaa
