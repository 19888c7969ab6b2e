/-
  What is proved: what tile.Copy answers.
-/
import Derived.Test.YtkoppbbmdjhaoaaHl
namespace Go.Proofs.Ytkoppbbmdjhaoaa
open Go.RowKit
set_option linter.unusedSimpArgs false

theorem F16 : tabF Try.prog 16 = some Try.f16 := by kernel_rfl
theorem Z24 : (tabT Try.prog 24).map (fun y => (y.size, y.zero.cells.toList)) = some (9, [.int .i64 0, .slice none 0 0, .int .i64 0, .int .i64 0, .int .i64 0, .int .i64 0, .int .i64 0, .int .i64 0, .slice none 0 0]) := by kernel_rfl
theorem Y24 : (tabT Try.prog 24).map (fun y => (y.size, y.zero)) = some (9, .agg #[.int .i64 0, .slice none 0 0, .int .i64 0, .int .i64 0, .int .i64 0, .int .i64 0, .int .i64 0, .int .i64 0, .slice none 0 0]) := by kernel_rfl
theorem T24x : ∃ b d, tabT Try.prog 24 = some ⟨9, b, .agg #[.int .i64 0, .slice none 0 0, .int .i64 0, .int .i64 0, .int .i64 0, .int .i64 0, .int .i64 0, .int .i64 0, .slice none 0 0], d⟩ := by
  have h := Y24
  cases ht : tabT Try.prog 24 with
  | none => rw [ht] at h; cases h
  | some y =>
    rw [ht] at h
    cases y
    simp only [Option.map_some, Option.some.injEq, Prod.mk.injEq] at h
    obtain ⟨rfl, rfl⟩ := h
    exact ⟨_, _, rfl⟩

def HL (b4 b5 : List Value) (h2 g2 h g : Nat → Int) : AH := ⟨6, [(5, .cells false b5), (4, .cells false b4), (3, .ints h2), (2, .ints g2), (1, .ints h), (0, .ints g)]⟩

theorem b22 : Nat.beq 2 2 = true := rfl


def P16both (s : SV) (n k : Nat) (b4 b5 : List Value) (h2 g2 : Nat → Int) (r : List DR × Nat) : Prop := r.2 = 10 ∧ wheap [(7, .cells false [.int .i64 0, .slice none 0 0, .int .i64 0, .int .i64 0, .int .i64 0, .int .i64 0, .int .i64 0, .int .i64 0, .slice none 0 0]), (6, .cells false [.int .i64 s.p, .slice (some ⟨0, 0, some 1⟩) (n + 1) 0, .int .i64 s.w, .int .i64 s.d, .int .i64 s.f, .int .i64 s.c, .int .i64 s.m, .int .i64 s.de, .slice (some ⟨1, 0, some 1⟩) (k + 1) 0]), (5, .cells false b5), (4, .cells false b4), (3, .ints h2), (2, .ints g2), (1, .ints s.h), (0, .ints s.g)] r.1 = [(9, .cells false (intsL s.h (k + 1))), (8, .cells false (intsL s.g (n + 1))), (7, .cells false [.int .i64 0, .slice none 0 0, .int .i64 0, .int .i64 0, .int .i64 0, .int .i64 0, .int .i64 0, .int .i64 0, .slice none 0 0]), (6, .cells false [.int .i64 s.p, .slice (some ⟨8, 0, none⟩) (n + 1) 1, .int .i64 s.w, .int .i64 s.d, .int .i64 s.f, .int .i64 s.c, .int .i64 s.m, .int .i64 s.de, .slice (some ⟨9, 0, none⟩) (k + 1) 1]), (5, .cells false b5), (4, .cells false b4), (3, .ints h2), (2, .ints g2), (1, .ints s.h), (0, .ints s.g)] ∧ ∀ tm, tv tm all1 r.1 1 = getT tm 1 ∧ tv tm all1 r.1 2 = getT tm 2

set_option maxRecDepth 10000 in
set_option maxHeartbeats 8000000 in
theorem copy_both (call : Value → List Value → AH → Option (Value × AH)) (hc : ∀ (i nx m : Nat) (g : Nat → Int) (bs : List (Nat × ABlk)), lookB bs i = some (.ints g) → m + 1 ≤ 200 → call (.func (.func 70) #[] #[]) [.slice (some ⟨i, 0, some 1⟩) (m + 1) 0] ⟨nx, bs⟩ = some (.slice (some ⟨nx, 0, none⟩) (m + 1) 1, ⟨nx + 1, (nx, .cells false (intsL g (m + 1))) :: bs⟩))
    (hc0 : ∀ (i nx : Nat) (bs : List (Nat × ABlk)), call (.func (.func 70) #[] #[]) [.slice (some ⟨i, 0, some 1⟩) 0 0] ⟨nx, bs⟩ = some (.slice none 0 0, ⟨nx, below nx bs⟩))
    (s : SV) (b4 b5 : List Value) (h2 g2 : Nat → Int) (n k : Nat) (hn : s.n = n + 1) (hk : s.k = k + 1) (hn' : n + 1 ≤ 200) (hk' : k + 1 ≤ 200) :
    evFn (tabT Try.prog) call 300 kpT 16 Try.f16 [s.val] (HL b4 b5 h2 g2 s.h s.g) = some (.agg ⟨[.int .i64 s.p, .slice (some ⟨8, 0, none⟩) (n + 1) 1, .int .i64 s.w, .int .i64 s.d, .int .i64 s.f, .int .i64 s.c, .int .i64 s.m, .int .i64 s.de, .slice (some ⟨9, 0, none⟩) (k + 1) 1]⟩, ⟨10, [(9, .cells false (intsL s.h (k + 1))), (8, .cells false (intsL s.g (n + 1))), (7, .cells false [.int .i64 s.p, .slice (some ⟨8, 0, none⟩) (n + 1) 1, .int .i64 s.w, .int .i64 s.d, .int .i64 s.f, .int .i64 s.c, .int .i64 s.m, .int .i64 s.de, .slice (some ⟨9, 0, none⟩) (k + 1) 1]), (6, .cells false [.int .i64 s.p, .slice (some ⟨8, 0, none⟩) (n + 1) 1, .int .i64 s.w, .int .i64 s.d, .int .i64 s.f, .int .i64 s.c, .int .i64 s.m, .int .i64 s.de, .slice (some ⟨9, 0, none⟩) (k + 1) 1]), (5, .cells false b5), (4, .cells false b4), (3, .ints h2), (2, .ints g2), (1, .ints s.h), (0, .ints s.g)]⟩) := by
  obtain ⟨_, _, t24⟩ := T24x
  simp only [evFn, Try.f16, SV.val, HL, hn, hk]
  simp [ec_skip, ec_label, ek_reg, ek_draw, ek_seq, ec_cond, ek_block, ec_loop, ec_exit, ec_ret, ek_nil, ek_op, opK_some, regK_some, seqK_normal, seqK_exit, seqK_ret, blockK_normal, blockK_exit, blockK_ret, evOp, vOp, hOp, aWanted, aY, boolOf, opd, putT, closedV, undef, aBin, intOp, sameK, mapO, joinR, hasAddr, pushB, aAlloc, Value.cells, T3, T4, T22, FA24_0, FA24_1, FA24_2, FA24_3, FA24_4, FA24_5, FA24_6, FA24_7, FA24_8, LD3, LD4, LD22, LD27, LDr, LD24, LEN22, IA22, cellAt, lookB, Nat.beq_eq, takeCells, getT, setT, finF, takeM, resV, getT_set, setT_length, t24]
  generalize hX : evDraw _ _ _ _ _ = X
  obtain ⟨⟨rs, ny⟩, rfl, hnx, hwh, htv⟩ := evDraw_ex (Pq := P16both s n k b4 b5 h2 g2) hX (by kernel_rfl) (by simp [decrK]) (by
    clear hX
    simp [befs, befsFrom, maskOf, mask1, Region.binds, ABlk.rw, Nat.testBit, Value.cells, mapO, drRun, drOp, looks, guardT, tmpsOf, Op.operands, Call.operands, wantedR, gOf, natMem, tv, all1, roB, news, newOnes, decr, evOp, vOp, hOp, opd, closedV, undef, aBin, intOp, sameK, opdO, FA24_0, FA24_1, FA24_4, FA24_5, FA24_8, LD3, LD22, LD24, LDr, IA22, cellAt, lookB, Nat.beq_eq, T3, T4, T22, takeCells, hc, hc0, hn', hk', getT, wheap, aStore, List.find?, setB, putCells, cellV, T22, b02, b12, below, Nat.blt_eq]
    refine ⟨?_, ?_⟩
    · simp [dynOK, b02, b12, b22, ordB, Nat.testBit]
    · exact ⟨rfl, rfl, fun tm => by simp [tv, all1]⟩)
  simp only at hnx hwh htv
  subst hnx
  simp [ec_skip, ec_label, ek_reg, ek_draw, ek_seq, ec_cond, ek_block, ec_loop, ec_exit, ec_ret, ek_nil, ek_op, opK_some, regK_some, seqK_normal, seqK_exit, seqK_ret, blockK_normal, blockK_exit, blockK_ret, evOp, vOp, hOp, aWanted, aY, boolOf, opd, putT, closedV, undef, aBin, intOp, sameK, mapO, joinR, hasAddr, pushB, aAlloc, Value.cells, T3, T4, T22, FA24_0, FA24_1, FA24_2, FA24_3, FA24_4, FA24_5, FA24_6, FA24_7, FA24_8, LD3, LD4, LD22, LD27, LDr, LD24, LEN22, IA22, cellAt, lookB, Nat.beq_eq, takeCells, getT_fin, fin_length, htv, getT, getT_set, setT_length, hwh, finF, takeM, resV, t24, aStore, setB, putCells, cellV, cleaned, kpT, hasAddr, below, Nat.blt_eq]

def P16suits (s : SV) (n k : Nat) (b4 b5 : List Value) (h2 g2 : Nat → Int) (r : List DR × Nat) : Prop := r.2 = 9 ∧ wheap [(7, .cells false [.int .i64 0, .slice none 0 0, .int .i64 0, .int .i64 0, .int .i64 0, .int .i64 0, .int .i64 0, .int .i64 0, .slice none 0 0]), (6, .cells false [.int .i64 s.p, .slice (some ⟨0, 0, some 1⟩) (n + 1) 0, .int .i64 s.w, .int .i64 s.d, .int .i64 s.f, .int .i64 s.c, .int .i64 s.m, .int .i64 s.de, .slice (some ⟨1, 0, some 1⟩) (0) 0]), (5, .cells false b5), (4, .cells false b4), (3, .ints h2), (2, .ints g2), (1, .ints s.h), (0, .ints s.g)] r.1 = [(8, .cells false (intsL s.g (n + 1))), (7, .cells false [.int .i64 0, .slice none 0 0, .int .i64 0, .int .i64 0, .int .i64 0, .int .i64 0, .int .i64 0, .int .i64 0, .slice none 0 0]), (6, .cells false [.int .i64 s.p, .slice (some ⟨8, 0, none⟩) (n + 1) 1, .int .i64 s.w, .int .i64 s.d, .int .i64 s.f, .int .i64 s.c, .int .i64 s.m, .int .i64 s.de, .slice none 0 0]), (5, .cells false b5), (4, .cells false b4), (3, .ints h2), (2, .ints g2), (1, .ints s.h), (0, .ints s.g)] ∧ ∀ tm, tv tm all1 r.1 1 = getT tm 1 ∧ tv tm all1 r.1 2 = getT tm 2

set_option maxRecDepth 10000 in
set_option maxHeartbeats 8000000 in
theorem copy_suits (call : Value → List Value → AH → Option (Value × AH)) (hc : ∀ (i nx m : Nat) (g : Nat → Int) (bs : List (Nat × ABlk)), lookB bs i = some (.ints g) → m + 1 ≤ 200 → call (.func (.func 70) #[] #[]) [.slice (some ⟨i, 0, some 1⟩) (m + 1) 0] ⟨nx, bs⟩ = some (.slice (some ⟨nx, 0, none⟩) (m + 1) 1, ⟨nx + 1, (nx, .cells false (intsL g (m + 1))) :: bs⟩))
    (hc0 : ∀ (i nx : Nat) (bs : List (Nat × ABlk)), call (.func (.func 70) #[] #[]) [.slice (some ⟨i, 0, some 1⟩) 0 0] ⟨nx, bs⟩ = some (.slice none 0 0, ⟨nx, below nx bs⟩))
    (s : SV) (b4 b5 : List Value) (h2 g2 : Nat → Int) (n k : Nat) (hn : s.n = n + 1) (hk : s.k = 0) (hn' : n + 1 ≤ 200) (hk' : k + 1 ≤ 200) :
    evFn (tabT Try.prog) call 300 kpT 16 Try.f16 [s.val] (HL b4 b5 h2 g2 s.h s.g) = some (.agg ⟨[.int .i64 s.p, .slice (some ⟨8, 0, none⟩) (n + 1) 1, .int .i64 s.w, .int .i64 s.d, .int .i64 s.f, .int .i64 s.c, .int .i64 s.m, .int .i64 s.de, .slice none 0 0]⟩, ⟨9, [(8, .cells false (intsL s.g (n + 1))), (7, .cells false [.int .i64 s.p, .slice (some ⟨8, 0, none⟩) (n + 1) 1, .int .i64 s.w, .int .i64 s.d, .int .i64 s.f, .int .i64 s.c, .int .i64 s.m, .int .i64 s.de, .slice none 0 0]), (6, .cells false [.int .i64 s.p, .slice (some ⟨8, 0, none⟩) (n + 1) 1, .int .i64 s.w, .int .i64 s.d, .int .i64 s.f, .int .i64 s.c, .int .i64 s.m, .int .i64 s.de, .slice none 0 0]), (5, .cells false b5), (4, .cells false b4), (3, .ints h2), (2, .ints g2), (1, .ints s.h), (0, .ints s.g)]⟩) := by
  obtain ⟨_, _, t24⟩ := T24x
  simp only [evFn, Try.f16, SV.val, HL, hn, hk]
  simp [ec_skip, ec_label, ek_reg, ek_draw, ek_seq, ec_cond, ek_block, ec_loop, ec_exit, ec_ret, ek_nil, ek_op, opK_some, regK_some, seqK_normal, seqK_exit, seqK_ret, blockK_normal, blockK_exit, blockK_ret, evOp, vOp, hOp, aWanted, aY, boolOf, opd, putT, closedV, undef, aBin, intOp, sameK, mapO, joinR, hasAddr, pushB, aAlloc, Value.cells, T3, T4, T22, FA24_0, FA24_1, FA24_2, FA24_3, FA24_4, FA24_5, FA24_6, FA24_7, FA24_8, LD3, LD4, LD22, LD27, LDr, LD24, LEN22, IA22, cellAt, lookB, Nat.beq_eq, takeCells, getT, setT, finF, takeM, resV, getT_set, setT_length, t24]
  generalize hX : evDraw _ _ _ _ _ = X
  obtain ⟨⟨rs, ny⟩, rfl, hnx, hwh, htv⟩ := evDraw_ex (Pq := P16suits s n k b4 b5 h2 g2) hX (by kernel_rfl) (by simp [decrK]) (by
    clear hX
    simp [befs, befsFrom, maskOf, mask1, Region.binds, ABlk.rw, Nat.testBit, Value.cells, mapO, drRun, drOp, looks, guardT, tmpsOf, Op.operands, Call.operands, wantedR, gOf, natMem, tv, all1, roB, news, newOnes, decr, evOp, vOp, hOp, opd, closedV, undef, aBin, intOp, sameK, opdO, FA24_0, FA24_1, FA24_4, FA24_5, FA24_8, LD3, LD22, LD24, LDr, IA22, cellAt, lookB, Nat.beq_eq, T3, T4, T22, takeCells, hc, hc0, hn', hk', getT, wheap, aStore, List.find?, setB, putCells, cellV, T22, b02, b12, below, Nat.blt_eq]
    refine ⟨?_, ?_⟩
    · simp [dynOK, b02, b12, b22, ordB, Nat.testBit]
    · exact ⟨rfl, rfl, fun tm => by simp [tv, all1]⟩)
  simp only at hnx hwh htv
  subst hnx
  simp [ec_skip, ec_label, ek_reg, ek_draw, ek_seq, ec_cond, ek_block, ec_loop, ec_exit, ec_ret, ek_nil, ek_op, opK_some, regK_some, seqK_normal, seqK_exit, seqK_ret, blockK_normal, blockK_exit, blockK_ret, evOp, vOp, hOp, aWanted, aY, boolOf, opd, putT, closedV, undef, aBin, intOp, sameK, mapO, joinR, hasAddr, pushB, aAlloc, Value.cells, T3, T4, T22, FA24_0, FA24_1, FA24_2, FA24_3, FA24_4, FA24_5, FA24_6, FA24_7, FA24_8, LD3, LD4, LD22, LD27, LDr, LD24, LEN22, IA22, cellAt, lookB, Nat.beq_eq, takeCells, getT_fin, fin_length, htv, getT, getT_set, setT_length, hwh, finF, takeM, resV, t24, aStore, setB, putCells, cellV, cleaned, kpT, hasAddr, below, Nat.blt_eq]

def P16reds (s : SV) (n k : Nat) (b4 b5 : List Value) (h2 g2 : Nat → Int) (r : List DR × Nat) : Prop := r.2 = 9 ∧ wheap [(7, .cells false [.int .i64 0, .slice none 0 0, .int .i64 0, .int .i64 0, .int .i64 0, .int .i64 0, .int .i64 0, .int .i64 0, .slice none 0 0]), (6, .cells false [.int .i64 s.p, .slice (some ⟨0, 0, some 1⟩) (0) 0, .int .i64 s.w, .int .i64 s.d, .int .i64 s.f, .int .i64 s.c, .int .i64 s.m, .int .i64 s.de, .slice (some ⟨1, 0, some 1⟩) (k + 1) 0]), (5, .cells false b5), (4, .cells false b4), (3, .ints h2), (2, .ints g2), (1, .ints s.h), (0, .ints s.g)] r.1 = [(8, .cells false (intsL s.h (k + 1))), (7, .cells false [.int .i64 0, .slice none 0 0, .int .i64 0, .int .i64 0, .int .i64 0, .int .i64 0, .int .i64 0, .int .i64 0, .slice none 0 0]), (6, .cells false [.int .i64 s.p, .slice none 0 0, .int .i64 s.w, .int .i64 s.d, .int .i64 s.f, .int .i64 s.c, .int .i64 s.m, .int .i64 s.de, .slice (some ⟨8, 0, none⟩) (k + 1) 1]), (5, .cells false b5), (4, .cells false b4), (3, .ints h2), (2, .ints g2), (1, .ints s.h), (0, .ints s.g)] ∧ ∀ tm, tv tm all1 r.1 1 = getT tm 1 ∧ tv tm all1 r.1 2 = getT tm 2

set_option maxRecDepth 10000 in
set_option maxHeartbeats 8000000 in
theorem copy_reds (call : Value → List Value → AH → Option (Value × AH)) (hc : ∀ (i nx m : Nat) (g : Nat → Int) (bs : List (Nat × ABlk)), lookB bs i = some (.ints g) → m + 1 ≤ 200 → call (.func (.func 70) #[] #[]) [.slice (some ⟨i, 0, some 1⟩) (m + 1) 0] ⟨nx, bs⟩ = some (.slice (some ⟨nx, 0, none⟩) (m + 1) 1, ⟨nx + 1, (nx, .cells false (intsL g (m + 1))) :: bs⟩))
    (hc0 : ∀ (i nx : Nat) (bs : List (Nat × ABlk)), call (.func (.func 70) #[] #[]) [.slice (some ⟨i, 0, some 1⟩) 0 0] ⟨nx, bs⟩ = some (.slice none 0 0, ⟨nx, below nx bs⟩))
    (s : SV) (b4 b5 : List Value) (h2 g2 : Nat → Int) (n k : Nat) (hn : s.n = 0) (hk : s.k = k + 1) (hn' : n + 1 ≤ 200) (hk' : k + 1 ≤ 200) :
    evFn (tabT Try.prog) call 300 kpT 16 Try.f16 [s.val] (HL b4 b5 h2 g2 s.h s.g) = some (.agg ⟨[.int .i64 s.p, .slice none 0 0, .int .i64 s.w, .int .i64 s.d, .int .i64 s.f, .int .i64 s.c, .int .i64 s.m, .int .i64 s.de, .slice (some ⟨8, 0, none⟩) (k + 1) 1]⟩, ⟨9, [(8, .cells false (intsL s.h (k + 1))), (7, .cells false [.int .i64 s.p, .slice none 0 0, .int .i64 s.w, .int .i64 s.d, .int .i64 s.f, .int .i64 s.c, .int .i64 s.m, .int .i64 s.de, .slice (some ⟨8, 0, none⟩) (k + 1) 1]), (6, .cells false [.int .i64 s.p, .slice none 0 0, .int .i64 s.w, .int .i64 s.d, .int .i64 s.f, .int .i64 s.c, .int .i64 s.m, .int .i64 s.de, .slice (some ⟨8, 0, none⟩) (k + 1) 1]), (5, .cells false b5), (4, .cells false b4), (3, .ints h2), (2, .ints g2), (1, .ints s.h), (0, .ints s.g)]⟩) := by
  obtain ⟨_, _, t24⟩ := T24x
  simp only [evFn, Try.f16, SV.val, HL, hn, hk]
  simp [ec_skip, ec_label, ek_reg, ek_draw, ek_seq, ec_cond, ek_block, ec_loop, ec_exit, ec_ret, ek_nil, ek_op, opK_some, regK_some, seqK_normal, seqK_exit, seqK_ret, blockK_normal, blockK_exit, blockK_ret, evOp, vOp, hOp, aWanted, aY, boolOf, opd, putT, closedV, undef, aBin, intOp, sameK, mapO, joinR, hasAddr, pushB, aAlloc, Value.cells, T3, T4, T22, FA24_0, FA24_1, FA24_2, FA24_3, FA24_4, FA24_5, FA24_6, FA24_7, FA24_8, LD3, LD4, LD22, LD27, LDr, LD24, LEN22, IA22, cellAt, lookB, Nat.beq_eq, takeCells, getT, setT, finF, takeM, resV, getT_set, setT_length, t24]
  generalize hX : evDraw _ _ _ _ _ = X
  obtain ⟨⟨rs, ny⟩, rfl, hnx, hwh, htv⟩ := evDraw_ex (Pq := P16reds s n k b4 b5 h2 g2) hX (by kernel_rfl) (by simp [decrK]) (by
    clear hX
    simp [befs, befsFrom, maskOf, mask1, Region.binds, ABlk.rw, Nat.testBit, Value.cells, mapO, drRun, drOp, looks, guardT, tmpsOf, Op.operands, Call.operands, wantedR, gOf, natMem, tv, all1, roB, news, newOnes, decr, evOp, vOp, hOp, opd, closedV, undef, aBin, intOp, sameK, opdO, FA24_0, FA24_1, FA24_4, FA24_5, FA24_8, LD3, LD22, LD24, LDr, IA22, cellAt, lookB, Nat.beq_eq, T3, T4, T22, takeCells, hc, hc0, hn', hk', getT, wheap, aStore, List.find?, setB, putCells, cellV, T22, b02, b12, below, Nat.blt_eq]
    refine ⟨?_, ?_⟩
    · simp [dynOK, b02, b12, b22, ordB, Nat.testBit]
    · exact ⟨rfl, rfl, fun tm => by simp [tv, all1]⟩)
  simp only at hnx hwh htv
  subst hnx
  simp [ec_skip, ec_label, ek_reg, ek_draw, ek_seq, ec_cond, ek_block, ec_loop, ec_exit, ec_ret, ek_nil, ek_op, opK_some, regK_some, seqK_normal, seqK_exit, seqK_ret, blockK_normal, blockK_exit, blockK_ret, evOp, vOp, hOp, aWanted, aY, boolOf, opd, putT, closedV, undef, aBin, intOp, sameK, mapO, joinR, hasAddr, pushB, aAlloc, Value.cells, T3, T4, T22, FA24_0, FA24_1, FA24_2, FA24_3, FA24_4, FA24_5, FA24_6, FA24_7, FA24_8, LD3, LD4, LD22, LD27, LDr, LD24, LEN22, IA22, cellAt, lookB, Nat.beq_eq, takeCells, getT_fin, fin_length, htv, getT, getT_set, setT_length, hwh, finF, takeM, resV, t24, aStore, setB, putCells, cellV, cleaned, kpT, hasAddr, below, Nat.blt_eq]

def P16none (s : SV) (n k : Nat) (b4 b5 : List Value) (h2 g2 : Nat → Int) (r : List DR × Nat) : Prop := r.2 = 8 ∧ wheap [(7, .cells false [.int .i64 0, .slice none 0 0, .int .i64 0, .int .i64 0, .int .i64 0, .int .i64 0, .int .i64 0, .int .i64 0, .slice none 0 0]), (6, .cells false [.int .i64 s.p, .slice (some ⟨0, 0, some 1⟩) (0) 0, .int .i64 s.w, .int .i64 s.d, .int .i64 s.f, .int .i64 s.c, .int .i64 s.m, .int .i64 s.de, .slice (some ⟨1, 0, some 1⟩) (0) 0]), (5, .cells false b5), (4, .cells false b4), (3, .ints h2), (2, .ints g2), (1, .ints s.h), (0, .ints s.g)] r.1 = [(7, .cells false [.int .i64 0, .slice none 0 0, .int .i64 0, .int .i64 0, .int .i64 0, .int .i64 0, .int .i64 0, .int .i64 0, .slice none 0 0]), (6, .cells false [.int .i64 s.p, .slice none 0 0, .int .i64 s.w, .int .i64 s.d, .int .i64 s.f, .int .i64 s.c, .int .i64 s.m, .int .i64 s.de, .slice none 0 0]), (5, .cells false b5), (4, .cells false b4), (3, .ints h2), (2, .ints g2), (1, .ints s.h), (0, .ints s.g)] ∧ ∀ tm, tv tm all1 r.1 1 = getT tm 1 ∧ tv tm all1 r.1 2 = getT tm 2

set_option maxRecDepth 10000 in
set_option maxHeartbeats 8000000 in
theorem copy_none (call : Value → List Value → AH → Option (Value × AH)) (hc : ∀ (i nx m : Nat) (g : Nat → Int) (bs : List (Nat × ABlk)), lookB bs i = some (.ints g) → m + 1 ≤ 200 → call (.func (.func 70) #[] #[]) [.slice (some ⟨i, 0, some 1⟩) (m + 1) 0] ⟨nx, bs⟩ = some (.slice (some ⟨nx, 0, none⟩) (m + 1) 1, ⟨nx + 1, (nx, .cells false (intsL g (m + 1))) :: bs⟩))
    (hc0 : ∀ (i nx : Nat) (bs : List (Nat × ABlk)), call (.func (.func 70) #[] #[]) [.slice (some ⟨i, 0, some 1⟩) 0 0] ⟨nx, bs⟩ = some (.slice none 0 0, ⟨nx, below nx bs⟩))
    (s : SV) (b4 b5 : List Value) (h2 g2 : Nat → Int) (n k : Nat) (hn : s.n = 0) (hk : s.k = 0) (hn' : n + 1 ≤ 200) (hk' : k + 1 ≤ 200) :
    evFn (tabT Try.prog) call 300 kpT 16 Try.f16 [s.val] (HL b4 b5 h2 g2 s.h s.g) = some (.agg ⟨[.int .i64 s.p, .slice none 0 0, .int .i64 s.w, .int .i64 s.d, .int .i64 s.f, .int .i64 s.c, .int .i64 s.m, .int .i64 s.de, .slice none 0 0]⟩, ⟨8, [(5, .cells false b5), (4, .cells false b4), (3, .ints h2), (2, .ints g2), (1, .ints s.h), (0, .ints s.g)]⟩) := by
  obtain ⟨_, _, t24⟩ := T24x
  simp only [evFn, Try.f16, SV.val, HL, hn, hk]
  simp [ec_skip, ec_label, ek_reg, ek_draw, ek_seq, ec_cond, ek_block, ec_loop, ec_exit, ec_ret, ek_nil, ek_op, opK_some, regK_some, seqK_normal, seqK_exit, seqK_ret, blockK_normal, blockK_exit, blockK_ret, evOp, vOp, hOp, aWanted, aY, boolOf, opd, putT, closedV, undef, aBin, intOp, sameK, mapO, joinR, hasAddr, pushB, aAlloc, Value.cells, T3, T4, T22, FA24_0, FA24_1, FA24_2, FA24_3, FA24_4, FA24_5, FA24_6, FA24_7, FA24_8, LD3, LD4, LD22, LD27, LDr, LD24, LEN22, IA22, cellAt, lookB, Nat.beq_eq, takeCells, getT, setT, finF, takeM, resV, getT_set, setT_length, t24]
  generalize hX : evDraw _ _ _ _ _ = X
  obtain ⟨⟨rs, ny⟩, rfl, hnx, hwh, htv⟩ := evDraw_ex (Pq := P16none s n k b4 b5 h2 g2) hX (by kernel_rfl) (by simp [decrK]) (by
    clear hX
    simp [befs, befsFrom, maskOf, mask1, Region.binds, ABlk.rw, Nat.testBit, Value.cells, mapO, drRun, drOp, looks, guardT, tmpsOf, Op.operands, Call.operands, wantedR, gOf, natMem, tv, all1, roB, news, newOnes, decr, evOp, vOp, hOp, opd, closedV, undef, aBin, intOp, sameK, opdO, FA24_0, FA24_1, FA24_4, FA24_5, FA24_8, LD3, LD22, LD24, LDr, IA22, cellAt, lookB, Nat.beq_eq, T3, T4, T22, takeCells, hc, hc0, hn', hk', getT, wheap, aStore, List.find?, setB, putCells, cellV, T22, b02, b12, below, Nat.blt_eq]
    refine ⟨?_, ?_⟩
    · simp [dynOK, b02, b12, b22, ordB, Nat.testBit]
    · exact ⟨rfl, rfl, fun tm => by simp [tv, all1]⟩)
  simp only at hnx hwh htv
  subst hnx
  simp [ec_skip, ec_label, ek_reg, ek_draw, ek_seq, ec_cond, ek_block, ec_loop, ec_exit, ec_ret, ek_nil, ek_op, opK_some, regK_some, seqK_normal, seqK_exit, seqK_ret, blockK_normal, blockK_exit, blockK_ret, evOp, vOp, hOp, aWanted, aY, boolOf, opd, putT, closedV, undef, aBin, intOp, sameK, mapO, joinR, hasAddr, pushB, aAlloc, Value.cells, T3, T4, T22, FA24_0, FA24_1, FA24_2, FA24_3, FA24_4, FA24_5, FA24_6, FA24_7, FA24_8, LD3, LD4, LD22, LD27, LDr, LD24, LEN22, IA22, cellAt, lookB, Nat.beq_eq, takeCells, getT_fin, fin_length, htv, getT, getT_set, setT_length, hwh, finF, takeM, resV, t24, aStore, setB, putCells, cellV, cleaned, kpT, hasAddr, below, Nat.blt_eq]

end Go.Proofs.Ytkoppbbmdjhaoaa
