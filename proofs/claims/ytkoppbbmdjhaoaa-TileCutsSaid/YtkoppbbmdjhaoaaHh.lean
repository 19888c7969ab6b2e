/-
  What is proved: the body of the law TileCuts answers true: with short lists by what both Cuts answer, with long ones at once.
-/
import Derived.Test.YtkoppbbmdjhaoaaHg
namespace Go.Proofs.Ytkoppbbmdjhaoaa
open Go.RowKit
set_option linter.unusedSimpArgs false

set_option maxRecDepth 10000 in
set_option maxHeartbeats 8000000 in
theorem cuts_ev (v : DV) (hl : v.s.long = false) (hq : (v.q : Int) ≤ 10) : ∃ H', evFn (tabT Try.prog) (inH L6) 300 kpT 10 Try.f10 v.args v.hp = some (.bool true, H') := by
  have h15 := L6_15 v.s
  have h54 := L6_54 v
  have h55 := L6_55 v
  have h25 := L6_25
  have hq' : ¬ 10 < v.q := by omega
  have hq2 : ¬ 10 < (v.q : Int) := by omega
  rw [hl] at h15
  by_cases c : v.cerr = 0
  · have hcut : v.cut = .tuple #[.int .i64 v.cval, .int .i64 0] := by simp [DV.cut, c]
    rw [hcut] at h54 h55
    simp only [SV.val, DV.args] at h15 h54 h55
    simp only [evFn, Try.f10, DV.args, SV.val, DV.hp]
    simp [ec_skip, ec_label, ek_reg, ek_draw, ek_seq, ec_cond, ek_block, ec_loop, ec_exit, ec_ret, ek_nil, ek_op, opK_some, regK_some, seqK_normal, seqK_exit, seqK_ret, blockK_normal, blockK_exit, blockK_ret, evOp, vOp, hOp, aWanted, aY, boolOf, opd, putT, closedV, undef, aBin, intOp, sameK, mapO, joinR, hasAddr, pushB, aAlloc, Value.cells, T3, T4, T22, FA24_0, FA24_1, FA24_2, FA24_3, FA24_4, FA24_5, FA24_6, FA24_7, FA24_8, LD3, LD4, LD22, LD27, LDr, LD24, LEN22, IA22, cellAt, lookB, Nat.beq_eq, takeCells, getT, setT, finF, takeM, resV, getT_set, setT_length, h15, h54, h55, h25, hq, hq', hq2]
  · have hcut : v.cut = .tuple #[.int .i64 0, .int .i64 v.cerr] := by simp [DV.cut, c]
    rw [hcut] at h54 h55
    simp only [SV.val, DV.args] at h15 h54 h55
    simp only [evFn, Try.f10, DV.args, SV.val, DV.hp]
    simp [ec_skip, ec_label, ek_reg, ek_draw, ek_seq, ec_cond, ek_block, ec_loop, ec_exit, ec_ret, ek_nil, ek_op, opK_some, regK_some, seqK_normal, seqK_exit, seqK_ret, blockK_normal, blockK_exit, blockK_ret, evOp, vOp, hOp, aWanted, aY, boolOf, opd, putT, closedV, undef, aBin, intOp, sameK, mapO, joinR, hasAddr, pushB, aAlloc, Value.cells, T3, T4, T22, FA24_0, FA24_1, FA24_2, FA24_3, FA24_4, FA24_5, FA24_6, FA24_7, FA24_8, LD3, LD4, LD22, LD27, LDr, LD24, LEN22, IA22, cellAt, lookB, Nat.beq_eq, takeCells, getT, setT, finF, takeM, resV, getT_set, setT_length, h15, h54, h55, h25, hq, hq', hq2]

set_option maxRecDepth 10000 in
set_option maxHeartbeats 8000000 in
theorem long_evB (call : Value → List Value → AH → Option (Value × AH)) (s : SV) (c : ABlk) : evFn (tabT Try.prog) call 300 kpT 15 Try.f15 [s.val] ⟨4, [(3, c)]⟩ = some (.bool s.long, ⟨5, [(3, c)]⟩) := by
  simp only [evFn, Try.f15, SV.val, SV.long]
  by_cases c1 : 20 < (s.n : Int)
  · have c1' : ¬ (s.n : Int) ≤ 20 := by omega
    simp [ec_skip, ec_label, ek_reg, ek_draw, ek_seq, ec_cond, ek_block, ec_loop, ec_exit, ec_ret, ek_nil, ek_op, opK_some, regK_some, seqK_normal, seqK_exit, seqK_ret, blockK_normal, blockK_exit, blockK_ret, evOp, vOp, hOp, aWanted, aY, boolOf, opd, putT, closedV, undef, aBin, intOp, sameK, mapO, joinR, hasAddr, pushB, aAlloc, Value.cells, T3, T4, T22, FA24_0, FA24_1, FA24_2, FA24_3, FA24_4, FA24_5, FA24_6, FA24_7, FA24_8, LD3, LD4, LD22, LD27, LDr, LD24, LEN22, IA22, cellAt, lookB, Nat.beq_eq, takeCells, getT, setT, finF, takeM, resV, getT_set, setT_length, c1, c1', cleaned, kpT, below, Nat.blt_eq]
  · have c1' : (s.n : Int) ≤ 20 := by omega
    simp [ec_skip, ec_label, ek_reg, ek_draw, ek_seq, ec_cond, ek_block, ec_loop, ec_exit, ec_ret, ek_nil, ek_op, opK_some, regK_some, seqK_normal, seqK_exit, seqK_ret, blockK_normal, blockK_exit, blockK_ret, evOp, vOp, hOp, aWanted, aY, boolOf, opd, putT, closedV, undef, aBin, intOp, sameK, mapO, joinR, hasAddr, pushB, aAlloc, Value.cells, T3, T4, T22, FA24_0, FA24_1, FA24_2, FA24_3, FA24_4, FA24_5, FA24_6, FA24_7, FA24_8, LD3, LD4, LD22, LD27, LDr, LD24, LEN22, IA22, cellAt, lookB, Nat.beq_eq, takeCells, getT, setT, finF, takeM, resV, getT_set, setT_length, c1, c1', cleaned, kpT, below, Nat.blt_eq]

theorem noH_15 (s : SV) (c : ABlk) : inH noH (.func (.func 15) #[] #[]) [s.val] ⟨4, [(3, c)]⟩ = some (.bool s.long, ⟨5, [(3, c)]⟩) := by
  unfold inH
  rw [evCall_succ]
  simp only [noH, F15]
  exact long_evB _ s c

set_option maxRecDepth 10000 in
set_option maxHeartbeats 8000000 in
theorem cutsL_ev (v : DV) (h : v.s.long = true ∨ 10 < (v.q : Int)) : ∃ H', evFn (tabT Try.prog) (inH noH) 300 kpT 10 Try.f10 v.args ⟨3, []⟩ = some (.bool true, H') := by
  have h15 := noH_15 v.s
  simp only [evFn, Try.f10, DV.args, SV.val]
  cases hl : v.s.long with
  | true =>
    rw [hl] at h15
    simp only [SV.val] at h15
    simp [ec_skip, ec_label, ek_reg, ek_draw, ek_seq, ec_cond, ek_block, ec_loop, ec_exit, ec_ret, ek_nil, ek_op, opK_some, regK_some, seqK_normal, seqK_exit, seqK_ret, blockK_normal, blockK_exit, blockK_ret, evOp, vOp, hOp, aWanted, aY, boolOf, opd, putT, closedV, undef, aBin, intOp, sameK, mapO, joinR, hasAddr, pushB, aAlloc, Value.cells, T3, T4, T22, FA24_0, FA24_1, FA24_2, FA24_3, FA24_4, FA24_5, FA24_6, FA24_7, FA24_8, LD3, LD4, LD22, LD27, LDr, LD24, LEN22, IA22, cellAt, lookB, Nat.beq_eq, takeCells, getT, setT, finF, takeM, resV, getT_set, setT_length, h15]
  | false =>
    have hq : 10 < (v.q : Int) := by
      rcases h with h | h
      · rw [hl] at h; cases h
      · exact h
    have hq' : 10 < v.q := by omega
    have hq2 : ¬ (v.q : Int) ≤ 10 := by omega
    rw [hl] at h15
    simp only [SV.val] at h15
    simp [ec_skip, ec_label, ek_reg, ek_draw, ek_seq, ec_cond, ek_block, ec_loop, ec_exit, ec_ret, ek_nil, ek_op, opK_some, regK_some, seqK_normal, seqK_exit, seqK_ret, blockK_normal, blockK_exit, blockK_ret, evOp, vOp, hOp, aWanted, aY, boolOf, opd, putT, closedV, undef, aBin, intOp, sameK, mapO, joinR, hasAddr, pushB, aAlloc, Value.cells, T3, T4, T22, FA24_0, FA24_1, FA24_2, FA24_3, FA24_4, FA24_5, FA24_6, FA24_7, FA24_8, LD3, LD4, LD22, LD27, LDr, LD24, LEN22, IA22, cellAt, lookB, Nat.beq_eq, takeCells, getT, setT, finF, takeM, resV, getT_set, setT_length, h15, hq, hq', hq2]

end Go.Proofs.Ytkoppbbmdjhaoaa
