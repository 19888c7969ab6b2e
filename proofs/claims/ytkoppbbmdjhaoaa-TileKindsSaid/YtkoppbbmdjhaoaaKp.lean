/-
  What is proved: the body of the law TileKinds answers true of every set and all numbers.
-/
import Derived.Test.YtkoppbbmdjhaoaaKo
namespace Go.Proofs.Ytkoppbbmdjhaoaa
open Go.RowKit
set_option linter.unusedSimpArgs false
set_option linter.unusedVariables false

theorem F4 : tabF Try.prog 4 = some Try.f4 := by kernel_rfl
theorem b22k : Nat.beq 2 2 = true := rfl

def P4a (s : SV) (r : List DR × Nat) : Prop := r.2 = 3 ∧ wheap s.bx.bs r.1 = s.bx.bs ∧ ∀ tm, tv tm all1 r.1 50 = .bool false ∧ tv tm all1 r.1 1 = getT tm 1 ∧ tv tm all1 r.1 2 = getT tm 2 ∧ tv tm all1 r.1 3 = getT tm 3
def P4b (nx : Nat) (bs0 bs : List (Nat × ABlk)) (r : List DR × Nat) : Prop := r.2 = nx ∧ wheap bs0 r.1 = bs ∧ ∀ tm, tv tm all1 r.1 6 = .bool true

theorem placeT_two (x : Option (Int × Int × Int)) : ∃ a b, placeT x = .tuple #[.int .i64 a, .int .i64 b] := by
  cases x with
  | none => exact ⟨_, _, rfl⟩
  | some x => exact ⟨_, _, rfl⟩

set_option maxRecDepth 10000 in
set_option maxHeartbeats 8000000 in
theorem tkinds4_nil (s : SV) (t kind : Int) (hl : s.long = false) (ho : s.orphs = []) : ∃ H', evFn (tabT Try.prog) (inH R4) 300 kpT 4 Try.f4 [s.val, .int .i64 t, .int .i64 kind] s.hp = some (.bool true, H') := by
  obtain ⟨pa, pb, hp⟩ := placeT_two (s.find kind)
  have h15 := R4_15 s
  have h26 := R4_26 s kind
  have h27 := R4_27 s kind
  rw [hp] at h26 h27
  have h28 := R4_28 s t
  have h29 := R4_29 s t
  have h30 := R4_30 s t
  have h31 := R4_31 s t
  have h32 := R4_32 s kind
  have h33 := R4_33 s kind
  have h37 := R4_37 s kind
  have h38 := R4_38 s kind
  have h25 := R4_25
  have h35 := R4_35 s
  have h36 := R4_36 s
  have h34 := R4_34n
  rw [ho] at h35 h36
  simp only [lstV, lstM] at h35 h36
  have tb0_9 : Nat.testBit 0 9 = false := by decide
  have tb0_11 : Nat.testBit 0 11 = false := by decide
  have tb3_9 : Nat.testBit 3 9 = false := by decide
  have tb3_11 : Nat.testBit 3 11 = false := by decide
  have tb31_9 : Nat.testBit 31 9 = false := by decide
  have tb31_11 : Nat.testBit 31 11 = false := by decide
  have tb63_9 : Nat.testBit 63 9 = false := by decide
  have tb63_11 : Nat.testBit 63 11 = false := by decide
  have tb127_9 : Nat.testBit 127 9 = false := by decide
  have tb127_11 : Nat.testBit 127 11 = false := by decide
  have tb255_9 : Nat.testBit 255 9 = false := by decide
  have tb255_11 : Nat.testBit 255 11 = false := by decide
  have tb511_9 : Nat.testBit 511 9 = false := by decide
  have tb511_11 : Nat.testBit 511 11 = false := by decide
  have tb2047_9 : Nat.testBit 2047 9 = true := by decide
  have tb2047_11 : Nat.testBit 2047 11 = false := by decide
  have tb4095_9 : Nat.testBit 4095 9 = true := by decide
  have tb4095_11 : Nat.testBit 4095 11 = true := by decide
  have tb8191_9 : Nat.testBit 8191 9 = true := by decide
  have tb8191_11 : Nat.testBit 8191 11 = true := by decide
  have tb16383_9 : Nat.testBit 16383 9 = true := by decide
  have tb16383_11 : Nat.testBit 16383 11 = true := by decide
  have tb32767_9 : Nat.testBit 32767 9 = true := by decide
  have tb32767_11 : Nat.testBit 32767 11 = true := by decide
  have tb131071_9 : Nat.testBit 131071 9 = true := by decide
  have tb131071_11 : Nat.testBit 131071 11 = true := by decide
  have tb1048575_9 : Nat.testBit 1048575 9 = true := by decide
  have tb1048575_11 : Nat.testBit 1048575 11 = true := by decide
  have tb2097151_9 : Nat.testBit 2097151 9 = true := by decide
  have tb2097151_11 : Nat.testBit 2097151 11 = true := by decide
  have tb4194303_9 : Nat.testBit 4194303 9 = true := by decide
  have tb4194303_11 : Nat.testBit 4194303 11 = true := by decide
  have tb8388607_9 : Nat.testBit 8388607 9 = true := by decide
  have tb8388607_11 : Nat.testBit 8388607 11 = true := by decide
  have tb16777215_9 : Nat.testBit 16777215 9 = true := by decide
  have tb16777215_11 : Nat.testBit 16777215 11 = true := by decide
  have tb33554431_9 : Nat.testBit 33554431 9 = true := by decide
  have tb33554431_11 : Nat.testBit 33554431 11 = true := by decide
  have tb67108863_9 : Nat.testBit 67108863 9 = true := by decide
  have tb67108863_11 : Nat.testBit 67108863 11 = true := by decide
  rw [hl] at h15
  simp only [SV.val] at h15 h26 h27 h28 h29 h30 h31 h32 h33 h35 h36 h37 h38
  simp only [evFn, Try.f4, SV.val, SV.hp]
  simp [ec_skip, ec_label, ek_reg, ek_draw, ek_seq, ec_cond, ek_block, ec_loop, ec_exit, ec_ret, ek_nil, ek_op, opK_some, regK_some, seqK_normal, seqK_exit, seqK_ret, blockK_normal, blockK_exit, blockK_ret, evOp, vOp, hOp, aWanted, aY, boolOf, opd, putT, closedV, undef, aBin, intOp, sameK, mapO, joinR, hasAddr, pushB, aAlloc, Value.cells, T3, T4, T22, FA24_0, FA24_1, FA24_2, FA24_3, FA24_4, FA24_5, FA24_6, FA24_7, FA24_8, LD3, LD4, LD22, LD27, LDr, LD24, LEN22, IA22, cellAt, lookB, Nat.beq_eq, takeCells, getT, setT, h15, h26, h27]
  generalize hX : evDraw _ _ _ _ _ = X
  obtain ⟨⟨rs, nx⟩, rfl, hnx, hwh, htv⟩ := evDraw_ex (Pq := P4a s) hX (by kernel_rfl) (by simp [decrK]) (by
    clear hX
    generalize befs _ = M
    simp [mapO, drRun, drOp, looks, guardT, tmpsOf, Op.operands, Call.operands, wantedR, gOf, natMem, tv, all1, roB, news, newOnes, decr, evOp, vOp, hOp, opd, closedV, undef, aBin, intOp, sameK, opdO, FA24_0, FA24_1, FA24_2, FA24_3, FA24_4, FA24_5, FA24_8, LD3, LD22, LD24, LDr, IA22, cellAt, lookB, Nat.beq_eq, T3, T4, T22, takeCells, getT, h28, h29, h30, h31]
    exact ⟨by simp [dynOK, b02, b12], rfl, by simp [SV.bx, wheap, news], fun tm => by simp [tv, all1]⟩)
  simp only [SV.bx] at hnx hwh htv
  subst hnx
  simp [ec_skip, ec_label, ek_reg, ek_draw, ek_seq, ec_cond, ek_block, ec_loop, ec_exit, ec_ret, ek_nil, ek_op, opK_some, regK_some, seqK_normal, seqK_exit, seqK_ret, blockK_normal, blockK_exit, blockK_ret, evOp, vOp, hOp, aWanted, aY, boolOf, opd, putT, closedV, undef, aBin, intOp, sameK, mapO, joinR, hasAddr, pushB, aAlloc, Value.cells, T3, T4, T22, FA24_0, FA24_1, FA24_2, FA24_3, FA24_4, FA24_5, FA24_6, FA24_7, FA24_8, LD3, LD4, LD22, LD27, LDr, LD24, LEN22, IA22, cellAt, lookB, Nat.beq_eq, takeCells, getT_fin, fin_length, htv, hwh, getT_set, setT_length, getT]
  generalize hX : evDraw _ _ _ _ _ = X
  obtain ⟨⟨rs2, nx2⟩, rfl, hnx2, hwh2, htv2⟩ := evDraw_ex (Pq := P4b 3 s.bx.bs s.bx.bs) hX (by kernel_rfl) (by simp [decrK]) (by
    clear hX
    generalize befs _ = M
    simp [mapO, drRun, drOp, looks, guardT, tmpsOf, Op.operands, Call.operands, wantedR, gOf, natMem, tv, all1, roB, news, newOnes, decr, evOp, vOp, hOp, opd, closedV, undef, aBin, intOp, sameK, opdO, FA24_0, FA24_1, FA24_2, FA24_3, FA24_4, FA24_5, FA24_8, LD3, LD22, LD24, LDr, IA22, cellAt, lookB, Nat.beq_eq, T3, T4, T22, takeCells, getT, getT_fin, fin_length, htv, getT_set, setT_length, h32, h33, h35, h36, h34, h37, h38, h25]
    exact ⟨by simp [dynOK, b02, b12], rfl, by simp [SV.bx, wheap, news], fun tm => by simp [tv, all1]⟩)
  simp only [SV.bx] at hnx2 hwh2 htv2
  subst hnx2
  simp [ec_skip, ec_label, ek_reg, ek_draw, ek_seq, ec_cond, ek_block, ec_loop, ec_exit, ec_ret, ek_nil, ek_op, opK_some, regK_some, seqK_normal, seqK_exit, seqK_ret, blockK_normal, blockK_exit, blockK_ret, evOp, vOp, hOp, aWanted, aY, boolOf, opd, putT, closedV, undef, aBin, intOp, sameK, mapO, joinR, hasAddr, pushB, aAlloc, Value.cells, T3, T4, T22, FA24_0, FA24_1, FA24_2, FA24_3, FA24_4, FA24_5, FA24_6, FA24_7, FA24_8, LD3, LD4, LD22, LD27, LDr, LD24, LEN22, IA22, cellAt, lookB, Nat.beq_eq, takeCells, finF, takeM, resV, getT_set, setT_length, getT, setT, getT_fin, fin_length, htv2, hwh2]

set_option maxRecDepth 10000 in
set_option maxHeartbeats 8000000 in
theorem tkinds4_cons (s : SV) (t kind : Int) (hl : s.long = false) (ho : s.orphs ≠ []) : ∃ H', evFn (tabT Try.prog) (inH R4) 300 kpT 4 Try.f4 [s.val, .int .i64 t, .int .i64 kind] s.hp = some (.bool true, H') := by
  obtain ⟨pa, pb, hp⟩ := placeT_two (s.find kind)
  have h15 := R4_15 s
  have h26 := R4_26 s kind
  have h27 := R4_27 s kind
  rw [hp] at h26 h27
  have h28 := R4_28 s t
  have h29 := R4_29 s t
  have h30 := R4_30 s t
  have h31 := R4_31 s t
  have h32 := R4_32 s kind
  have h33 := R4_33 s kind
  have h37 := R4_37 s kind
  have h38 := R4_38 s kind
  have h25 := R4_25
  have h35 := R4_35 s
  have h36 := R4_36 s
  have hL : ∀ H : AH, lstV H.next s.orphs = .slice (some ⟨H.next, 0, none⟩) s.orphs.length 1 ∧ lstM H s.orphs = ⟨H.next + 1, (H.next, .cells false (intsV s.orphs)) :: H.bs⟩ := fun H => by
    cases h : s.orphs with
    | nil => exact absurd h ho
    | cons a l => exact ⟨rfl, rfl⟩
  have h34 := fun (H : AH) (h1 : lookB H.bs 3 = some (.cells true (intsV s.orphs))) (h2 : lookB H.bs 4 = some (.cells true (intsV s.orphs))) => R4_34 (b1 := 3) (b2 := 4) (l := s.orphs) (H := H) (by omega) h1 h2 (orphs_len s)
  have h34' := fun (H : AH) (h1 : lookB H.bs 3 = some (.cells false (intsV s.orphs))) (h2 : lookB H.bs 4 = some (.cells false (intsV s.orphs))) => R4_34 (b1 := 3) (b2 := 4) (l := s.orphs) (H := H) (by omega) h1 h2 (orphs_len s)
  simp only [(hL _).1, (hL _).2] at h35 h36
  have tb0_9 : Nat.testBit 0 9 = false := by decide
  have tb0_11 : Nat.testBit 0 11 = false := by decide
  have tb3_9 : Nat.testBit 3 9 = false := by decide
  have tb3_11 : Nat.testBit 3 11 = false := by decide
  have tb31_9 : Nat.testBit 31 9 = false := by decide
  have tb31_11 : Nat.testBit 31 11 = false := by decide
  have tb63_9 : Nat.testBit 63 9 = false := by decide
  have tb63_11 : Nat.testBit 63 11 = false := by decide
  have tb127_9 : Nat.testBit 127 9 = false := by decide
  have tb127_11 : Nat.testBit 127 11 = false := by decide
  have tb255_9 : Nat.testBit 255 9 = false := by decide
  have tb255_11 : Nat.testBit 255 11 = false := by decide
  have tb511_9 : Nat.testBit 511 9 = false := by decide
  have tb511_11 : Nat.testBit 511 11 = false := by decide
  have tb2047_9 : Nat.testBit 2047 9 = true := by decide
  have tb2047_11 : Nat.testBit 2047 11 = false := by decide
  have tb4095_9 : Nat.testBit 4095 9 = true := by decide
  have tb4095_11 : Nat.testBit 4095 11 = true := by decide
  have tb8191_9 : Nat.testBit 8191 9 = true := by decide
  have tb8191_11 : Nat.testBit 8191 11 = true := by decide
  have tb16383_9 : Nat.testBit 16383 9 = true := by decide
  have tb16383_11 : Nat.testBit 16383 11 = true := by decide
  have tb32767_9 : Nat.testBit 32767 9 = true := by decide
  have tb32767_11 : Nat.testBit 32767 11 = true := by decide
  have tb131071_9 : Nat.testBit 131071 9 = true := by decide
  have tb131071_11 : Nat.testBit 131071 11 = true := by decide
  have tb1048575_9 : Nat.testBit 1048575 9 = true := by decide
  have tb1048575_11 : Nat.testBit 1048575 11 = true := by decide
  have tb2097151_9 : Nat.testBit 2097151 9 = true := by decide
  have tb2097151_11 : Nat.testBit 2097151 11 = true := by decide
  have tb4194303_9 : Nat.testBit 4194303 9 = true := by decide
  have tb4194303_11 : Nat.testBit 4194303 11 = true := by decide
  have tb8388607_9 : Nat.testBit 8388607 9 = true := by decide
  have tb8388607_11 : Nat.testBit 8388607 11 = true := by decide
  have tb16777215_9 : Nat.testBit 16777215 9 = true := by decide
  have tb16777215_11 : Nat.testBit 16777215 11 = true := by decide
  have tb33554431_9 : Nat.testBit 33554431 9 = true := by decide
  have tb33554431_11 : Nat.testBit 33554431 11 = true := by decide
  have tb67108863_9 : Nat.testBit 67108863 9 = true := by decide
  have tb67108863_11 : Nat.testBit 67108863 11 = true := by decide
  rw [hl] at h15
  simp only [SV.val] at h15 h26 h27 h28 h29 h30 h31 h32 h33 h35 h36 h37 h38
  simp only [evFn, Try.f4, SV.val, SV.hp]
  simp [ec_skip, ec_label, ek_reg, ek_draw, ek_seq, ec_cond, ek_block, ec_loop, ec_exit, ec_ret, ek_nil, ek_op, opK_some, regK_some, seqK_normal, seqK_exit, seqK_ret, blockK_normal, blockK_exit, blockK_ret, evOp, vOp, hOp, aWanted, aY, boolOf, opd, putT, closedV, undef, aBin, intOp, sameK, mapO, joinR, hasAddr, pushB, aAlloc, Value.cells, T3, T4, T22, FA24_0, FA24_1, FA24_2, FA24_3, FA24_4, FA24_5, FA24_6, FA24_7, FA24_8, LD3, LD4, LD22, LD27, LDr, LD24, LEN22, IA22, cellAt, lookB, Nat.beq_eq, takeCells, getT, setT, h15, h26, h27]
  generalize hX : evDraw _ _ _ _ _ = X
  obtain ⟨⟨rs, nx⟩, rfl, hnx, hwh, htv⟩ := evDraw_ex (Pq := P4a s) hX (by kernel_rfl) (by simp [decrK]) (by
    clear hX
    generalize befs _ = M
    simp [mapO, drRun, drOp, looks, guardT, tmpsOf, Op.operands, Call.operands, wantedR, gOf, natMem, tv, all1, roB, news, newOnes, decr, evOp, vOp, hOp, opd, closedV, undef, aBin, intOp, sameK, opdO, FA24_0, FA24_1, FA24_2, FA24_3, FA24_4, FA24_5, FA24_8, LD3, LD22, LD24, LDr, IA22, cellAt, lookB, Nat.beq_eq, T3, T4, T22, takeCells, getT, h28, h29, h30, h31]
    exact ⟨by simp [dynOK, b02, b12], rfl, by simp [SV.bx, wheap, news], fun tm => by simp [tv, all1]⟩)
  simp only [SV.bx] at hnx hwh htv
  subst hnx
  simp [ec_skip, ec_label, ek_reg, ek_draw, ek_seq, ec_cond, ek_block, ec_loop, ec_exit, ec_ret, ek_nil, ek_op, opK_some, regK_some, seqK_normal, seqK_exit, seqK_ret, blockK_normal, blockK_exit, blockK_ret, evOp, vOp, hOp, aWanted, aY, boolOf, opd, putT, closedV, undef, aBin, intOp, sameK, mapO, joinR, hasAddr, pushB, aAlloc, Value.cells, T3, T4, T22, FA24_0, FA24_1, FA24_2, FA24_3, FA24_4, FA24_5, FA24_6, FA24_7, FA24_8, LD3, LD4, LD22, LD27, LDr, LD24, LEN22, IA22, cellAt, lookB, Nat.beq_eq, takeCells, getT_fin, fin_length, htv, hwh, getT_set, setT_length, getT]
  generalize hX : evDraw _ _ _ _ _ = X
  obtain ⟨⟨rs2, nx2⟩, rfl, hnx2, hwh2, htv2⟩ := evDraw_ex (Pq := P4b 5 s.bx.bs ((4, .cells false (intsV s.orphs)) :: (3, .cells false (intsV s.orphs)) :: s.bx.bs)) hX (by kernel_rfl) (by simp [decrK]) (by
    clear hX
    generalize hM : befs _ = M
    have hM' : M = [0, 0, 3, 0, 0, 31, 63, 127, 255, 511, 255, 2047, 4095, 8191, 16383, 32767, 32767, 131071, 32767, 32767, 1048575, 2097151, 4194303, 8388607, 16777215, 33554431, 67108863] := by rw [← hM]; kernel_rfl
    subst hM'
    clear hM
    simp [tb0_9, tb0_11, tb3_9, tb3_11, tb31_9, tb31_11, tb63_9, tb63_11, tb127_9, tb127_11, tb255_9, tb255_11, tb511_9, tb511_11, tb2047_9, tb2047_11, tb4095_9, tb4095_11, tb8191_9, tb8191_11, tb16383_9, tb16383_11, tb32767_9, tb32767_11, tb131071_9, tb131071_11, tb1048575_9, tb1048575_11, tb2097151_9, tb2097151_11, tb4194303_9, tb4194303_11, tb8388607_9, tb8388607_11, tb16777215_9, tb16777215_11, tb33554431_9, tb33554431_11, tb67108863_9, tb67108863_11, ABlk.rw, Value.cells, mapO, drRun, drOp, looks, guardT, tmpsOf, Op.operands, Call.operands, wantedR, gOf, natMem, tv, all1, roB, news, newOnes, decr, evOp, vOp, hOp, opd, closedV, undef, aBin, intOp, sameK, opdO, FA24_0, FA24_1, FA24_2, FA24_3, FA24_4, FA24_5, FA24_8, LD3, LD22, LD24, LDr, IA22, cellAt, lookB, Nat.beq_eq, T3, T4, T22, takeCells, getT, getT_fin, fin_length, htv, getT_set, setT_length, h32, h33, h35, h36, h34, h37, h38, h25, h34', wheap, List.find?, b02, b12, below, Nat.blt_eq]
    refine ⟨?_, ?_⟩
    · simp [dynOK, b02, b12, b22k, ordB]
    · exact ⟨rfl, rfl, fun tm => by simp [tv, all1]⟩)
  simp only [SV.bx] at hnx2 hwh2 htv2
  subst hnx2
  simp [ec_skip, ec_label, ek_reg, ek_draw, ek_seq, ec_cond, ek_block, ec_loop, ec_exit, ec_ret, ek_nil, ek_op, opK_some, regK_some, seqK_normal, seqK_exit, seqK_ret, blockK_normal, blockK_exit, blockK_ret, evOp, vOp, hOp, aWanted, aY, boolOf, opd, putT, closedV, undef, aBin, intOp, sameK, mapO, joinR, hasAddr, pushB, aAlloc, Value.cells, T3, T4, T22, FA24_0, FA24_1, FA24_2, FA24_3, FA24_4, FA24_5, FA24_6, FA24_7, FA24_8, LD3, LD4, LD22, LD27, LDr, LD24, LEN22, IA22, cellAt, lookB, Nat.beq_eq, takeCells, finF, takeM, resV, getT_set, setT_length, getT, setT, getT_fin, fin_length, htv2, hwh2]

set_option maxRecDepth 10000 in
set_option maxHeartbeats 8000000 in
theorem long_evK (call : Value → List Value → AH → Option (Value × AH)) (s : SV) (nx : Nat) (bs : List (Nat × ABlk)) (hb : below nx bs = bs) : evFn (tabT Try.prog) call 300 kpT 15 Try.f15 [s.val] ⟨nx, bs⟩ = some (.bool s.long, ⟨nx + 1, bs⟩) := by
  simp only [evFn, Try.f15, SV.val, SV.long]
  by_cases c1 : 20 < (s.n : Int)
  · have c1' : ¬ (s.n : Int) ≤ 20 := by omega
    simp [ec_skip, ec_label, ek_reg, ek_draw, ek_seq, ec_cond, ek_block, ec_loop, ec_exit, ec_ret, ek_nil, ek_op, opK_some, regK_some, seqK_normal, seqK_exit, seqK_ret, blockK_normal, blockK_exit, blockK_ret, evOp, vOp, hOp, aWanted, aY, boolOf, opd, putT, closedV, undef, aBin, intOp, sameK, mapO, joinR, hasAddr, pushB, aAlloc, Value.cells, T3, T4, T22, FA24_0, FA24_1, FA24_2, FA24_3, FA24_4, FA24_5, FA24_6, FA24_7, FA24_8, LD3, LD4, LD22, LD27, LDr, LD24, LEN22, IA22, cellAt, lookB, Nat.beq_eq, takeCells, getT, setT, finF, takeM, resV, getT_set, setT_length, below, Nat.blt_eq, cleaned, kpT, c1, c1', hb]
  · have c1' : (s.n : Int) ≤ 20 := by omega
    simp [ec_skip, ec_label, ek_reg, ek_draw, ek_seq, ec_cond, ek_block, ec_loop, ec_exit, ec_ret, ek_nil, ek_op, opK_some, regK_some, seqK_normal, seqK_exit, seqK_ret, blockK_normal, blockK_exit, blockK_ret, evOp, vOp, hOp, aWanted, aY, boolOf, opd, putT, closedV, undef, aBin, intOp, sameK, mapO, joinR, hasAddr, pushB, aAlloc, Value.cells, T3, T4, T22, FA24_0, FA24_1, FA24_2, FA24_3, FA24_4, FA24_5, FA24_6, FA24_7, FA24_8, LD3, LD4, LD22, LD27, LDr, LD24, LEN22, IA22, cellAt, lookB, Nat.beq_eq, takeCells, getT, setT, finF, takeM, resV, getT_set, setT_length, below, Nat.blt_eq, cleaned, kpT, c1, c1', hb]

theorem noH_15K (s : SV) (nx : Nat) (bs : List (Nat × ABlk)) (hb : below nx bs = bs) : inH noH (.func (.func 15) #[] #[]) [s.val] ⟨nx, bs⟩ = some (.bool s.long, ⟨nx + 1, bs⟩) := by
  unfold inH
  rw [evCall_succ]
  simp only [noH, F15]
  exact long_evK _ s nx bs hb

set_option maxRecDepth 10000 in
set_option maxHeartbeats 8000000 in
theorem tkindsL_ev (s : SV) (t kind : Int) (hl : s.long = true) : ∃ H', evFn (tabT Try.prog) (inH noH) 300 kpT 4 Try.f4 [s.val, .int .i64 t, .int .i64 kind] ⟨2, []⟩ = some (.bool true, H') := by
  have h15 := noH_15K s
  rw [hl] at h15
  simp only [SV.val] at h15
  simp only [evFn, Try.f4, SV.val]
  simp [ec_skip, ec_label, ek_reg, ek_draw, ek_seq, ec_cond, ek_block, ec_loop, ec_exit, ec_ret, ek_nil, ek_op, opK_some, regK_some, seqK_normal, seqK_exit, seqK_ret, blockK_normal, blockK_exit, blockK_ret, evOp, vOp, hOp, aWanted, aY, boolOf, opd, putT, closedV, undef, aBin, intOp, sameK, mapO, joinR, hasAddr, pushB, aAlloc, Value.cells, T3, T4, T22, FA24_0, FA24_1, FA24_2, FA24_3, FA24_4, FA24_5, FA24_6, FA24_7, FA24_8, LD3, LD4, LD22, LD27, LDr, LD24, LEN22, IA22, cellAt, lookB, Nat.beq_eq, takeCells, getT, setT, finF, takeM, resV, getT_set, setT_length, below, Nat.blt_eq, h15]

theorem tkinds4_ev (s : SV) (t kind : Int) (hl : s.long = false) : ∃ H', evFn (tabT Try.prog) (inH R4) 300 kpT 4 Try.f4 [s.val, .int .i64 t, .int .i64 kind] s.hp = some (.bool true, H') := by
  by_cases ho : s.orphs = []
  · exact tkinds4_nil s t kind hl ho
  · exact tkinds4_cons s t kind hl ho

end Go.Proofs.Ytkoppbbmdjhaoaa
