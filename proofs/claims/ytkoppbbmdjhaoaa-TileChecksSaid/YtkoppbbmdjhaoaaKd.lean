/-
  What is proved: the body of the law TileChecks answers true of every two sets.
-/
import Derived.Test.YtkoppbbmdjhaoaaKc
namespace Go.Proofs.Ytkoppbbmdjhaoaa
open Go.RowKit
set_option linter.unusedSimpArgs false

set_option maxRecDepth 10000 in
set_option maxHeartbeats 8000000 in
theorem long_evG (call : Value → List Value → AH → Option (Value × AH)) (s : SV) (a b : Option Addr) (nx : Nat) (bs : List (Nat × ABlk)) (hb : below nx bs = bs) : evFn (tabT Try.prog) call 300 kpT 15 Try.f15 [mkSet s (.slice a s.n 0) (.slice b s.k 0)] ⟨nx, bs⟩ = some (.bool s.long, ⟨nx + 1, bs⟩) := by
  simp only [evFn, Try.f15, mkSet, SV.long]
  by_cases c1 : 20 < (s.n : Int)
  · have c1' : ¬ (s.n : Int) ≤ 20 := by omega
    simp [ec_skip, ec_label, ek_reg, ek_draw, ek_seq, ec_cond, ek_block, ec_loop, ec_exit, ec_ret, ek_nil, ek_op, opK_some, regK_some, seqK_normal, seqK_exit, seqK_ret, blockK_normal, blockK_exit, blockK_ret, evOp, vOp, hOp, aWanted, aY, boolOf, opd, putT, closedV, undef, aBin, intOp, sameK, mapO, joinR, hasAddr, pushB, aAlloc, Value.cells, T3, T4, T22, FA24_0, FA24_1, FA24_2, FA24_3, FA24_4, FA24_5, FA24_6, FA24_7, FA24_8, LD3, LD4, LD22, LD27, LDr, LD24, LEN22, IA22, cellAt, lookB, Nat.beq_eq, takeCells, getT, setT, finF, takeM, resV, getT_set, setT_length, below, Nat.blt_eq, cleaned, kpT, c1, c1', hb]
  · have c1' : (s.n : Int) ≤ 20 := by omega
    simp [ec_skip, ec_label, ek_reg, ek_draw, ek_seq, ec_cond, ek_block, ec_loop, ec_exit, ec_ret, ek_nil, ek_op, opK_some, regK_some, seqK_normal, seqK_exit, seqK_ret, blockK_normal, blockK_exit, blockK_ret, evOp, vOp, hOp, aWanted, aY, boolOf, opd, putT, closedV, undef, aBin, intOp, sameK, mapO, joinR, hasAddr, pushB, aAlloc, Value.cells, T3, T4, T22, FA24_0, FA24_1, FA24_2, FA24_3, FA24_4, FA24_5, FA24_6, FA24_7, FA24_8, LD3, LD4, LD22, LD27, LDr, LD24, LEN22, IA22, cellAt, lookB, Nat.beq_eq, takeCells, getT, setT, finF, takeM, resV, getT_set, setT_length, below, Nat.blt_eq, cleaned, kpT, c1, c1', hb]

theorem noH_15G (s : SV) (a b : Option Addr) (nx : Nat) (bs : List (Nat × ABlk)) (hb : below nx bs = bs) : inH noH (.func (.func 15) #[] #[]) [mkSet s (.slice a s.n 0) (.slice b s.k 0)] ⟨nx, bs⟩ = some (.bool s.long, ⟨nx + 1, bs⟩) := by
  unfold inH
  rw [evCall_succ]
  simp only [noH, F15]
  exact long_evG _ s a b nx bs hb

set_option maxRecDepth 10000 in
set_option maxHeartbeats 8000000 in
theorem checksL_ev (s t : SV) (h : s.long = true ∨ t.long = true) : ∃ H', evFn (tabT Try.prog) (inH noH) 300 kpT 3 Try.f3 [s.val, t.val2] ⟨4, []⟩ = some (.bool true, H') := by
  have h15 := noH_15G s
  have h15b := noH_15G t
  simp only [evFn, Try.f3, SV.val, SV.val2, mkSet]
  cases hl : s.long with
  | true =>
    rw [hl] at h15
    simp only [mkSet] at h15
    simp [ec_skip, ec_label, ek_reg, ek_draw, ek_seq, ec_cond, ek_block, ec_loop, ec_exit, ec_ret, ek_nil, ek_op, opK_some, regK_some, seqK_normal, seqK_exit, seqK_ret, blockK_normal, blockK_exit, blockK_ret, evOp, vOp, hOp, aWanted, aY, boolOf, opd, putT, closedV, undef, aBin, intOp, sameK, mapO, joinR, hasAddr, pushB, aAlloc, Value.cells, T3, T4, T22, FA24_0, FA24_1, FA24_2, FA24_3, FA24_4, FA24_5, FA24_6, FA24_7, FA24_8, LD3, LD4, LD22, LD27, LDr, LD24, LEN22, IA22, cellAt, lookB, Nat.beq_eq, takeCells, getT, setT, finF, takeM, resV, getT_set, setT_length, below, Nat.blt_eq, h15]
  | false =>
    have ht : t.long = true := by
      rcases h with h | h
      · rw [hl] at h; cases h
      · exact h
    rw [hl] at h15
    rw [ht] at h15b
    simp only [mkSet] at h15 h15b
    simp [ec_skip, ec_label, ek_reg, ek_draw, ek_seq, ec_cond, ek_block, ec_loop, ec_exit, ec_ret, ek_nil, ek_op, opK_some, regK_some, seqK_normal, seqK_exit, seqK_ret, blockK_normal, blockK_exit, blockK_ret, evOp, vOp, hOp, aWanted, aY, boolOf, opd, putT, closedV, undef, aBin, intOp, sameK, mapO, joinR, hasAddr, pushB, aAlloc, Value.cells, T3, T4, T22, FA24_0, FA24_1, FA24_2, FA24_3, FA24_4, FA24_5, FA24_6, FA24_7, FA24_8, LD3, LD4, LD22, LD27, LDr, LD24, LEN22, IA22, cellAt, lookB, Nat.beq_eq, takeCells, getT, setT, finF, takeM, resV, getT_set, setT_length, below, Nat.blt_eq, h15, h15b]

theorem checks_ev (s t : SV) (hs : s.long = false) (ht : t.long = false) : ∃ H', evFn (tabT Try.prog) (inH N1) 300 kpT 3 Try.f3 [s.val, t.val2] (HS s t) = some (.bool true, H') := by
  have hb : s.n ≤ 20 ∧ s.k ≤ 60 := by
    simp only [SV.long, Bool.or_eq_false_iff, decide_eq_false_iff_not] at hs
    omega
  rcases Nat.eq_zero_or_pos s.n with hn | hn <;> rcases Nat.eq_zero_or_pos s.k with hk | hk
  · exact checks_none s t 0 0 hn hk (by omega) (by omega) hs ht
  · exact checks_reds s t 0 (s.k - 1) hn (by omega) (by omega) (by omega) hs ht
  · exact checks_suits s t (s.n - 1) 0 (by omega) hk (by omega) (by omega) hs ht
  · exact checks_both s t (s.n - 1) (s.k - 1) (by omega) (by omega) (by omega) (by omega) hs ht

end Go.Proofs.Ytkoppbbmdjhaoaa
