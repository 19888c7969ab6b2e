/-
  What is proved: what tile.copied answers of a list of integers that lies in the caller's memory: nil for an empty one, else a new block with the same numbers.
-/
import Derived.Test.YtkoppbbmdjhaoaaHk
namespace Go.Proofs.Ytkoppbbmdjhaoaa
open Go.RowKit
set_option linter.unusedSimpArgs false

theorem F70 : tabF Try.prog 70 = some Try.f70 := by kernel_rfl

def intsL (g : Nat → Int) (n : Nat) : List Value := (List.range n).map fun q => Value.int .i64 (g q)

theorem intsL_cell (g : Nat → Int) (n : Nat) : (intsL g n).all cellV = true := by
  simp [intsL, cellV]

set_option maxRecDepth 10000 in
set_option maxHeartbeats 8000000 in
theorem copied_nil (call : Value → List Value → AH → Option (Value × AH)) (i nx : Nat) (bs : List (Nat × ABlk)) : evFn (tabT Try.prog) call 300 kpT 70 Try.f70 [.slice (some ⟨i, 0, some 1⟩) 0 0] ⟨nx, bs⟩ = some (.slice none 0 0, ⟨nx, below nx bs⟩) := by
  simp only [evFn, Try.f70]
  simp [ec_skip, ec_label, ek_reg, ek_draw, ek_seq, ec_cond, ek_block, ec_loop, ec_exit, ec_ret, ek_nil, ek_op, opK_some, regK_some, seqK_normal, seqK_exit, seqK_ret, blockK_normal, blockK_exit, blockK_ret, evOp, vOp, hOp, aWanted, aY, boolOf, opd, putT, closedV, undef, aBin, intOp, sameK, mapO, joinR, hasAddr, pushB, aAlloc, Value.cells, T3, T4, T22, FA24_0, FA24_1, FA24_2, FA24_3, FA24_4, FA24_5, FA24_6, FA24_7, FA24_8, LD3, LD4, LD22, LD27, LDr, LD24, LEN22, IA22, cellAt, lookB, Nat.beq_eq, takeCells, getT, setT, finF, takeM, resV, getT_set, setT_length, aAppend, sliceLen, T22, T3, cleaned, kpT]

set_option maxRecDepth 10000 in
set_option maxHeartbeats 8000000 in
theorem copied_new (call : Value → List Value → AH → Option (Value × AH)) (i nx m : Nat) (g : Nat → Int) (bs : List (Nat × ABlk)) (hi : lookB bs i = some (.ints g)) (hm : m + 1 ≤ 200) :
    evFn (tabT Try.prog) call 300 kpT 70 Try.f70 [.slice (some ⟨i, 0, some 1⟩) (m + 1) 0] ⟨nx, bs⟩ = some (.slice (some ⟨nx, 0, none⟩) (m + 1) 1, ⟨nx + 1, (nx, .cells false (intsL g (m + 1))) :: bs⟩) := by
  have hc := intsL_cell g (m + 1)
  unfold intsL at hc
  have h1 : Nat.ble ((m + 1) * 8) 1000000000000 = true := by rw [Nat.ble_eq]; omega
  have h2 : Nat.ble (m + 1) 1000000000000 = true := by rw [Nat.ble_eq]; omega
  have happ : aAppend (tabT Try.prog) ⟨nx, bs⟩ 22 (.slice none 0 0) (.slice (some ⟨i, 0, some 1⟩) (m + 1) 0) = some (.slice (some ⟨nx, 0, none⟩) (m + 1) 1, ⟨nx + 1, (nx, .cells false (intsL g (m + 1))) :: bs⟩) := by
    simp only [aAppend, T22, T3, sliceLen, srcCells, hi, dstCells, Nat.beq_refl, if_true, h1, h2, hc, Bool.and_true, intsL, List.nil_append, Nat.zero_add]
  simp only [evFn, Try.f70]
  simp [ec_skip, ec_label, ek_reg, ek_draw, ek_seq, ec_cond, ek_block, ec_loop, ec_exit, ec_ret, ek_nil, ek_op, opK_some, regK_some, seqK_normal, seqK_exit, seqK_ret, blockK_normal, blockK_exit, blockK_ret, evOp, vOp, hOp, aWanted, aY, boolOf, opd, putT, closedV, undef, aBin, intOp, sameK, mapO, joinR, hasAddr, pushB, aAlloc, Value.cells, T3, T4, T22, FA24_0, FA24_1, FA24_2, FA24_3, FA24_4, FA24_5, FA24_6, FA24_7, FA24_8, LD3, LD4, LD22, LD27, LDr, LD24, LEN22, IA22, cellAt, lookB, Nat.beq_eq, takeCells, getT, setT, finF, takeM, resV, getT_set, setT_length, happ, cleaned, kpT]

end Go.Proofs.Ytkoppbbmdjhaoaa
