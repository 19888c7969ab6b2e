/-
  What is proved: the body of the law TileChecks answers true of two sets with short lists.
-/
import Derived.Test.YtkoppbbmdjhaoaaKb
namespace Go.Proofs.Ytkoppbbmdjhaoaa
open Go.RowKit
set_option linter.unusedSimpArgs false
set_option linter.unusedVariables false

theorem F3 : tabF Try.prog 3 = some Try.f3 := by kernel_rfl

/-- The memory of two sets' lists. -/
def HS (s t : SV) : AH := ⟨4, [(3, .ints t.h), (2, .ints t.g), (1, .ints s.h), (0, .ints s.g)]⟩

def P3a (nx : Nat) (bs : List (Nat × ABlk)) (r : List DR × Nat) : Prop := r.2 = nx ∧ wheap bs r.1 = bs ∧ ∀ tm, tv tm all1 r.1 32 = .bool false ∧ tv tm all1 r.1 2 = getT tm 2 ∧ tv tm all1 r.1 3 = getT tm 3 ∧ tv tm all1 r.1 5 = getT tm 5
def P3b (nx : Nat) (bs : List (Nat × ABlk)) (r : List DR × Nat) : Prop := r.2 = nx ∧ wheap bs r.1 = bs ∧ ∀ tm, tv tm all1 r.1 4 = .bool true

set_option maxRecDepth 10000 in
set_option maxHeartbeats 8000000 in
theorem checks_both (s t : SV) (n k : Nat) (hn : s.n = n + 1) (hk : s.k = k + 1) (hn' : n + 1 ≤ 200) (hk' : k + 1 ≤ 200) (hs : s.long = false) (ht : t.long = false) : ∃ H', evFn (tabT Try.prog) (inH N1) 300 kpT 3 Try.f3 [s.val, t.val2] (HS s t) = some (.bool true, H') := by
  have h15 := N1_15 s
  have h15b := N1_15b t
  have h17 := N1_17 s
  have h18 := N1_18 s
  have h19 := N1_19 s
  have h20 := N1_20 s
  have h21 := N1_21 s
  have h22 := N1_22 s
  have h25 := N1_25
  have hn2 : s.n ≤ 200 := by omega
  have hk2 : s.k ≤ 200 := by omega
  have h23 := fun nx bs => @tsame_st s t hn2 hk2 nx bs
  have h24 := fun nx bs => @rsame_st s t hn2 hk2 nx bs
  have h23c : ∀ (nx : Nat) (bs : List (Nat × ABlk)), 11 ≤ nx → decrK ((nx, .defd) :: bs) = true → below nx bs = bs → lookB (roB bs) 0 = some (.ints s.g) → lookB (roB bs) 1 = some (.ints s.h) → lookB (roB bs) 8 = some (.cells true (intsL s.g (n + 1))) → lookB (roB bs) 9 = some (.cells true (intsL s.h (k + 1))) → inH N1 (.func (.func 23) #[] #[]) [s.val, mkSet s (.slice (some ⟨8, 0, none⟩) (n + 1) 1) (.slice (some ⟨9, 0, none⟩) (k + 1) 1)] ⟨nx, bs⟩ = some (.bool true, ⟨nx + 2, bs⟩) := by
    intro nx bs h8 hd hb l0 l1 l8 l9
    have r1 : RX nx bs (.slice (some ⟨8, 0, none⟩) (n + 1) 1) s.n s.g := by rw [hn]; exact rx_cells (by omega) l8
    have r8 : RX nx bs (.slice (some ⟨9, 0, none⟩) (k + 1) 1) s.k s.h := by rw [hk]; exact rx_cells (by omega) l9
    exact tsame_sc s hn2 hk2 (by omega) hd hb l0 l1 r1 r8
  have h24c : ∀ (nx : Nat) (bs : List (Nat × ABlk)), 11 ≤ nx → decrK ((nx, .defd) :: bs) = true → below nx bs = bs → lookB (roB bs) 0 = some (.ints s.g) → lookB (roB bs) 1 = some (.ints s.h) → lookB (roB bs) 8 = some (.cells true (intsL s.g (n + 1))) → lookB (roB bs) 9 = some (.cells true (intsL s.h (k + 1))) → inH N1 (.func (.func 24) #[] #[]) [s.val, mkSet s (.slice (some ⟨8, 0, none⟩) (n + 1) 1) (.slice (some ⟨9, 0, none⟩) (k + 1) 1)] ⟨nx, bs⟩ = some (.bool true, ⟨nx + 2, bs⟩) := by
    intro nx bs h8 hd hb l0 l1 l8 l9
    have r1 : RX nx bs (.slice (some ⟨8, 0, none⟩) (n + 1) 1) s.n s.g := by rw [hn]; exact rx_cells (by omega) l8
    have r8 : RX nx bs (.slice (some ⟨9, 0, none⟩) (k + 1) 1) s.k s.h := by rw [hk]; exact rx_cells (by omega) l9
    exact rsame_sc s hn2 hk2 (by omega) hd hb l0 l1 r1 r8
  have h16 : ∀ b4 b5, inH N1 (.func (.func 16) #[] #[]) [s.val] (HL b4 b5 t.h t.g s.h s.g) = some (.agg ⟨[.int .i64 s.p, .slice (some ⟨8, 0, none⟩) (n + 1) 1, .int .i64 s.w, .int .i64 s.d, .int .i64 s.f, .int .i64 s.c, .int .i64 s.m, .int .i64 s.de, .slice (some ⟨9, 0, none⟩) (k + 1) 1]⟩, ⟨10, [(9, .cells false (intsL s.h (k + 1))), (8, .cells false (intsL s.g (n + 1))), (7, .cells false ([.int .i64 s.p, .slice (some ⟨8, 0, none⟩) (n + 1) 1, .int .i64 s.w, .int .i64 s.d, .int .i64 s.f, .int .i64 s.c, .int .i64 s.m, .int .i64 s.de, .slice (some ⟨9, 0, none⟩) (k + 1) 1])), (6, .cells false ([.int .i64 s.p, .slice (some ⟨8, 0, none⟩) (n + 1) 1, .int .i64 s.w, .int .i64 s.d, .int .i64 s.f, .int .i64 s.c, .int .i64 s.m, .int .i64 s.de, .slice (some ⟨9, 0, none⟩) (k + 1) 1])), (5, .cells false b5), (4, .cells false b4), (3, .ints t.h), (2, .ints t.g), (1, .ints s.h), (0, .ints s.g)]⟩) := fun b4 b5 => by
    unfold inH
    rw [call_fn F16 rfl]
    exact copy_both _ copied_call copied_call0 s b4 b5 t.h t.g n k hn hk hn' hk'
  rw [hs] at h15
  rw [ht] at h15b
  obtain ⟨_, _, t24⟩ := T24x
  simp only [SV.val, SV.val2, mkSet, HL, hn, hk] at h15 h15b h16 h17 h18 h19 h20 h21 h22 h23 h24 h23c h24c
  simp only [evFn, Try.f3, SV.val, SV.val2, mkSet, HS, hn, hk]
  simp [ec_skip, ec_label, ek_reg, ek_draw, ek_seq, ec_cond, ek_block, ec_loop, ec_exit, ec_ret, ek_nil, ek_op, opK_some, regK_some, seqK_normal, seqK_exit, seqK_ret, blockK_normal, blockK_exit, blockK_ret, evOp, vOp, hOp, aWanted, aY, boolOf, opd, putT, closedV, undef, aBin, intOp, sameK, mapO, joinR, hasAddr, pushB, aAlloc, Value.cells, T3, T4, T22, FA24_0, FA24_1, FA24_2, FA24_3, FA24_4, FA24_5, FA24_6, FA24_7, FA24_8, LD3, LD4, LD22, LD27, LDr, LD24, LEN22, IA22, cellAt, lookB, Nat.beq_eq, takeCells, getT, setT, finF, takeM, resV, getT_set, setT_length, aStore, setB, putCells, cellV, t24, hasAddr, below, Nat.blt_eq, h15, h15b, h16]
  generalize hX : evDraw _ _ _ _ _ = X
  obtain ⟨⟨rs, nx⟩, rfl, hnx, hwh, htv⟩ := evDraw_ex (Pq := P3a 11 [(10, .cells false [.int .i64 s.p, .slice (some ⟨8, 0, none⟩) (n + 1) 1, .int .i64 s.w, .int .i64 s.d, .int .i64 s.f, .int .i64 s.c, .int .i64 s.m, .int .i64 s.de, .slice (some ⟨9, 0, none⟩) (k + 1) 1]), (9, .cells false (intsL s.h (k + 1))), (8, .cells false (intsL s.g (n + 1))), (7, .cells false ([.int .i64 s.p, .slice (some ⟨8, 0, none⟩) (n + 1) 1, .int .i64 s.w, .int .i64 s.d, .int .i64 s.f, .int .i64 s.c, .int .i64 s.m, .int .i64 s.de, .slice (some ⟨9, 0, none⟩) (k + 1) 1])), (6, .cells false ([.int .i64 s.p, .slice (some ⟨8, 0, none⟩) (n + 1) 1, .int .i64 s.w, .int .i64 s.d, .int .i64 s.f, .int .i64 s.c, .int .i64 s.m, .int .i64 s.de, .slice (some ⟨9, 0, none⟩) (k + 1) 1])), (5, .cells false [.int .i64 t.p, .slice (some ⟨2, 0, some 1⟩) t.n 0, .int .i64 t.w, .int .i64 t.d, .int .i64 t.f, .int .i64 t.c, .int .i64 t.m, .int .i64 t.de, .slice (some ⟨3, 0, some 1⟩) t.k 0]), (4, .cells false [.int .i64 s.p, .slice (some ⟨0, 0, some 1⟩) (n + 1) 0, .int .i64 s.w, .int .i64 s.d, .int .i64 s.f, .int .i64 s.c, .int .i64 s.m, .int .i64 s.de, .slice (some ⟨1, 0, some 1⟩) (k + 1) 0]), (3, .ints t.h), (2, .ints t.g), (1, .ints s.h), (0, .ints s.g)]) hX (by kernel_rfl) (by simp [decrK]) (by
    clear hX
    generalize befs _ = M
    simp [mapO, drRun, drOp, looks, guardT, tmpsOf, Op.operands, Call.operands, wantedR, gOf, natMem, tv, all1, roB, news, newOnes, decr, evOp, vOp, hOp, opd, closedV, undef, aBin, intOp, sameK, opdO, FA24_0, FA24_1, FA24_2, FA24_3, FA24_4, FA24_5, FA24_8, LD3, LD22, LD24, LDr, IA22, cellAt, lookB, Nat.beq_eq, T3, T4, T22, takeCells, getT, h17, h18, h19, h20, h21, h22]
    exact ⟨by simp [dynOK, b02, b12], rfl, by simp [wheap, news], fun tm => by simp [tv, all1]⟩)
  simp only at hnx hwh htv
  subst hnx
  simp [ec_skip, ec_label, ek_reg, ek_draw, ek_seq, ec_cond, ek_block, ec_loop, ec_exit, ec_ret, ek_nil, ek_op, opK_some, regK_some, seqK_normal, seqK_exit, seqK_ret, blockK_normal, blockK_exit, blockK_ret, evOp, vOp, hOp, aWanted, aY, boolOf, opd, putT, closedV, undef, aBin, intOp, sameK, mapO, joinR, hasAddr, pushB, aAlloc, Value.cells, T3, T4, T22, FA24_0, FA24_1, FA24_2, FA24_3, FA24_4, FA24_5, FA24_6, FA24_7, FA24_8, LD3, LD4, LD22, LD27, LDr, LD24, LEN22, IA22, cellAt, lookB, Nat.beq_eq, takeCells, getT, setT, finF, takeM, resV, getT_set, setT_length, aStore, setB, putCells, cellV, t24, hasAddr, below, Nat.blt_eq, getT_fin, fin_length, htv, hwh]
  generalize hX : evDraw _ _ _ _ _ = X
  obtain ⟨⟨rs2, nx2⟩, rfl, hnx2, hwh2, htv2⟩ := evDraw_ex (Pq := P3b 19 [(10, .cells false [.int .i64 s.p, .slice (some ⟨8, 0, none⟩) (n + 1) 1, .int .i64 s.w, .int .i64 s.d, .int .i64 s.f, .int .i64 s.c, .int .i64 s.m, .int .i64 s.de, .slice (some ⟨9, 0, none⟩) (k + 1) 1]), (9, .cells false (intsL s.h (k + 1))), (8, .cells false (intsL s.g (n + 1))), (7, .cells false ([.int .i64 s.p, .slice (some ⟨8, 0, none⟩) (n + 1) 1, .int .i64 s.w, .int .i64 s.d, .int .i64 s.f, .int .i64 s.c, .int .i64 s.m, .int .i64 s.de, .slice (some ⟨9, 0, none⟩) (k + 1) 1])), (6, .cells false ([.int .i64 s.p, .slice (some ⟨8, 0, none⟩) (n + 1) 1, .int .i64 s.w, .int .i64 s.d, .int .i64 s.f, .int .i64 s.c, .int .i64 s.m, .int .i64 s.de, .slice (some ⟨9, 0, none⟩) (k + 1) 1])), (5, .cells false [.int .i64 t.p, .slice (some ⟨2, 0, some 1⟩) t.n 0, .int .i64 t.w, .int .i64 t.d, .int .i64 t.f, .int .i64 t.c, .int .i64 t.m, .int .i64 t.de, .slice (some ⟨3, 0, some 1⟩) t.k 0]), (4, .cells false [.int .i64 s.p, .slice (some ⟨0, 0, some 1⟩) (n + 1) 0, .int .i64 s.w, .int .i64 s.d, .int .i64 s.f, .int .i64 s.c, .int .i64 s.m, .int .i64 s.de, .slice (some ⟨1, 0, some 1⟩) (k + 1) 0]), (3, .ints t.h), (2, .ints t.g), (1, .ints s.h), (0, .ints s.g)]) hX (by kernel_rfl) (by simp [decrK]) (by
    clear hX
    generalize befs _ = M
    simp [mapO, drRun, drOp, looks, guardT, tmpsOf, Op.operands, Call.operands, wantedR, gOf, natMem, tv, all1, roB, news, newOnes, decr, evOp, vOp, hOp, opd, closedV, undef, aBin, intOp, sameK, opdO, FA24_0, FA24_1, FA24_2, FA24_3, FA24_4, FA24_5, FA24_8, LD3, LD22, LD24, LDr, IA22, cellAt, lookB, Nat.beq_eq, T3, T4, T22, takeCells, getT, getT_fin, fin_length, htv, getT_set, setT_length, below, Nat.blt_eq, decrK, h23, h24, h23c, h24c, h25]
    exact ⟨by simp [dynOK, b02, b12], rfl, by simp [wheap, news], fun tm => by simp [tv, all1]⟩)
  simp only at hnx2 hwh2 htv2
  subst hnx2
  simp [ec_skip, ec_label, ek_reg, ek_draw, ek_seq, ec_cond, ek_block, ec_loop, ec_exit, ec_ret, ek_nil, ek_op, opK_some, regK_some, seqK_normal, seqK_exit, seqK_ret, blockK_normal, blockK_exit, blockK_ret, evOp, vOp, hOp, aWanted, aY, boolOf, opd, putT, closedV, undef, aBin, intOp, sameK, mapO, joinR, hasAddr, pushB, aAlloc, Value.cells, T3, T4, T22, FA24_0, FA24_1, FA24_2, FA24_3, FA24_4, FA24_5, FA24_6, FA24_7, FA24_8, LD3, LD4, LD22, LD27, LDr, LD24, LEN22, IA22, cellAt, lookB, Nat.beq_eq, takeCells, getT, setT, finF, takeM, resV, getT_set, setT_length, aStore, setB, putCells, cellV, t24, hasAddr, below, Nat.blt_eq, getT_fin, fin_length, htv2, hwh2]

set_option maxRecDepth 10000 in
set_option maxHeartbeats 8000000 in
theorem checks_suits (s t : SV) (n k : Nat) (hn : s.n = n + 1) (hk : s.k = 0) (hn' : n + 1 ≤ 200) (hk' : k + 1 ≤ 200) (hs : s.long = false) (ht : t.long = false) : ∃ H', evFn (tabT Try.prog) (inH N1) 300 kpT 3 Try.f3 [s.val, t.val2] (HS s t) = some (.bool true, H') := by
  have h15 := N1_15 s
  have h15b := N1_15b t
  have h17 := N1_17 s
  have h18 := N1_18 s
  have h19 := N1_19 s
  have h20 := N1_20 s
  have h21 := N1_21 s
  have h22 := N1_22 s
  have h25 := N1_25
  have hn2 : s.n ≤ 200 := by omega
  have hk2 : s.k ≤ 200 := by omega
  have h23 := fun nx bs => @tsame_st s t hn2 hk2 nx bs
  have h24 := fun nx bs => @rsame_st s t hn2 hk2 nx bs
  have h23c : ∀ (nx : Nat) (bs : List (Nat × ABlk)), 10 ≤ nx → decrK ((nx, .defd) :: bs) = true → below nx bs = bs → lookB (roB bs) 0 = some (.ints s.g) → lookB (roB bs) 1 = some (.ints s.h) → lookB (roB bs) 8 = some (.cells true (intsL s.g (n + 1))) → inH N1 (.func (.func 23) #[] #[]) [s.val, mkSet s (.slice (some ⟨8, 0, none⟩) (n + 1) 1) (.slice none 0 0)] ⟨nx, bs⟩ = some (.bool true, ⟨nx + 2, bs⟩) := by
    intro nx bs h8 hd hb l0 l1 l8
    have r1 : RX nx bs (.slice (some ⟨8, 0, none⟩) (n + 1) 1) s.n s.g := by rw [hn]; exact rx_cells (by omega) l8
    have r8 : RX nx bs (.slice none 0 0) s.k s.h := by rw [hk]; exact rx_nil
    exact tsame_sc s hn2 hk2 (by omega) hd hb l0 l1 r1 r8
  have h24c : ∀ (nx : Nat) (bs : List (Nat × ABlk)), 10 ≤ nx → decrK ((nx, .defd) :: bs) = true → below nx bs = bs → lookB (roB bs) 0 = some (.ints s.g) → lookB (roB bs) 1 = some (.ints s.h) → lookB (roB bs) 8 = some (.cells true (intsL s.g (n + 1))) → inH N1 (.func (.func 24) #[] #[]) [s.val, mkSet s (.slice (some ⟨8, 0, none⟩) (n + 1) 1) (.slice none 0 0)] ⟨nx, bs⟩ = some (.bool true, ⟨nx + 2, bs⟩) := by
    intro nx bs h8 hd hb l0 l1 l8
    have r1 : RX nx bs (.slice (some ⟨8, 0, none⟩) (n + 1) 1) s.n s.g := by rw [hn]; exact rx_cells (by omega) l8
    have r8 : RX nx bs (.slice none 0 0) s.k s.h := by rw [hk]; exact rx_nil
    exact rsame_sc s hn2 hk2 (by omega) hd hb l0 l1 r1 r8
  have h16 : ∀ b4 b5, inH N1 (.func (.func 16) #[] #[]) [s.val] (HL b4 b5 t.h t.g s.h s.g) = some (.agg ⟨[.int .i64 s.p, .slice (some ⟨8, 0, none⟩) (n + 1) 1, .int .i64 s.w, .int .i64 s.d, .int .i64 s.f, .int .i64 s.c, .int .i64 s.m, .int .i64 s.de, .slice none 0 0]⟩, ⟨9, [(8, .cells false (intsL s.g (n + 1))), (7, .cells false ([.int .i64 s.p, .slice (some ⟨8, 0, none⟩) (n + 1) 1, .int .i64 s.w, .int .i64 s.d, .int .i64 s.f, .int .i64 s.c, .int .i64 s.m, .int .i64 s.de, .slice none 0 0])), (6, .cells false ([.int .i64 s.p, .slice (some ⟨8, 0, none⟩) (n + 1) 1, .int .i64 s.w, .int .i64 s.d, .int .i64 s.f, .int .i64 s.c, .int .i64 s.m, .int .i64 s.de, .slice none 0 0])), (5, .cells false b5), (4, .cells false b4), (3, .ints t.h), (2, .ints t.g), (1, .ints s.h), (0, .ints s.g)]⟩) := fun b4 b5 => by
    unfold inH
    rw [call_fn F16 rfl]
    exact copy_suits _ copied_call copied_call0 s b4 b5 t.h t.g n k hn hk hn' hk'
  rw [hs] at h15
  rw [ht] at h15b
  obtain ⟨_, _, t24⟩ := T24x
  simp only [SV.val, SV.val2, mkSet, HL, hn, hk] at h15 h15b h16 h17 h18 h19 h20 h21 h22 h23 h24 h23c h24c
  simp only [evFn, Try.f3, SV.val, SV.val2, mkSet, HS, hn, hk]
  simp [ec_skip, ec_label, ek_reg, ek_draw, ek_seq, ec_cond, ek_block, ec_loop, ec_exit, ec_ret, ek_nil, ek_op, opK_some, regK_some, seqK_normal, seqK_exit, seqK_ret, blockK_normal, blockK_exit, blockK_ret, evOp, vOp, hOp, aWanted, aY, boolOf, opd, putT, closedV, undef, aBin, intOp, sameK, mapO, joinR, hasAddr, pushB, aAlloc, Value.cells, T3, T4, T22, FA24_0, FA24_1, FA24_2, FA24_3, FA24_4, FA24_5, FA24_6, FA24_7, FA24_8, LD3, LD4, LD22, LD27, LDr, LD24, LEN22, IA22, cellAt, lookB, Nat.beq_eq, takeCells, getT, setT, finF, takeM, resV, getT_set, setT_length, aStore, setB, putCells, cellV, t24, hasAddr, below, Nat.blt_eq, h15, h15b, h16]
  generalize hX : evDraw _ _ _ _ _ = X
  obtain ⟨⟨rs, nx⟩, rfl, hnx, hwh, htv⟩ := evDraw_ex (Pq := P3a 10 [(9, .cells false [.int .i64 s.p, .slice (some ⟨8, 0, none⟩) (n + 1) 1, .int .i64 s.w, .int .i64 s.d, .int .i64 s.f, .int .i64 s.c, .int .i64 s.m, .int .i64 s.de, .slice none 0 0]), (8, .cells false (intsL s.g (n + 1))), (7, .cells false ([.int .i64 s.p, .slice (some ⟨8, 0, none⟩) (n + 1) 1, .int .i64 s.w, .int .i64 s.d, .int .i64 s.f, .int .i64 s.c, .int .i64 s.m, .int .i64 s.de, .slice none 0 0])), (6, .cells false ([.int .i64 s.p, .slice (some ⟨8, 0, none⟩) (n + 1) 1, .int .i64 s.w, .int .i64 s.d, .int .i64 s.f, .int .i64 s.c, .int .i64 s.m, .int .i64 s.de, .slice none 0 0])), (5, .cells false [.int .i64 t.p, .slice (some ⟨2, 0, some 1⟩) t.n 0, .int .i64 t.w, .int .i64 t.d, .int .i64 t.f, .int .i64 t.c, .int .i64 t.m, .int .i64 t.de, .slice (some ⟨3, 0, some 1⟩) t.k 0]), (4, .cells false [.int .i64 s.p, .slice (some ⟨0, 0, some 1⟩) (n + 1) 0, .int .i64 s.w, .int .i64 s.d, .int .i64 s.f, .int .i64 s.c, .int .i64 s.m, .int .i64 s.de, .slice (some ⟨1, 0, some 1⟩) (0) 0]), (3, .ints t.h), (2, .ints t.g), (1, .ints s.h), (0, .ints s.g)]) hX (by kernel_rfl) (by simp [decrK]) (by
    clear hX
    generalize befs _ = M
    simp [mapO, drRun, drOp, looks, guardT, tmpsOf, Op.operands, Call.operands, wantedR, gOf, natMem, tv, all1, roB, news, newOnes, decr, evOp, vOp, hOp, opd, closedV, undef, aBin, intOp, sameK, opdO, FA24_0, FA24_1, FA24_2, FA24_3, FA24_4, FA24_5, FA24_8, LD3, LD22, LD24, LDr, IA22, cellAt, lookB, Nat.beq_eq, T3, T4, T22, takeCells, getT, h17, h18, h19, h20, h21, h22]
    exact ⟨by simp [dynOK, b02, b12], rfl, by simp [wheap, news], fun tm => by simp [tv, all1]⟩)
  simp only at hnx hwh htv
  subst hnx
  simp [ec_skip, ec_label, ek_reg, ek_draw, ek_seq, ec_cond, ek_block, ec_loop, ec_exit, ec_ret, ek_nil, ek_op, opK_some, regK_some, seqK_normal, seqK_exit, seqK_ret, blockK_normal, blockK_exit, blockK_ret, evOp, vOp, hOp, aWanted, aY, boolOf, opd, putT, closedV, undef, aBin, intOp, sameK, mapO, joinR, hasAddr, pushB, aAlloc, Value.cells, T3, T4, T22, FA24_0, FA24_1, FA24_2, FA24_3, FA24_4, FA24_5, FA24_6, FA24_7, FA24_8, LD3, LD4, LD22, LD27, LDr, LD24, LEN22, IA22, cellAt, lookB, Nat.beq_eq, takeCells, getT, setT, finF, takeM, resV, getT_set, setT_length, aStore, setB, putCells, cellV, t24, hasAddr, below, Nat.blt_eq, getT_fin, fin_length, htv, hwh]
  generalize hX : evDraw _ _ _ _ _ = X
  obtain ⟨⟨rs2, nx2⟩, rfl, hnx2, hwh2, htv2⟩ := evDraw_ex (Pq := P3b 18 [(9, .cells false [.int .i64 s.p, .slice (some ⟨8, 0, none⟩) (n + 1) 1, .int .i64 s.w, .int .i64 s.d, .int .i64 s.f, .int .i64 s.c, .int .i64 s.m, .int .i64 s.de, .slice none 0 0]), (8, .cells false (intsL s.g (n + 1))), (7, .cells false ([.int .i64 s.p, .slice (some ⟨8, 0, none⟩) (n + 1) 1, .int .i64 s.w, .int .i64 s.d, .int .i64 s.f, .int .i64 s.c, .int .i64 s.m, .int .i64 s.de, .slice none 0 0])), (6, .cells false ([.int .i64 s.p, .slice (some ⟨8, 0, none⟩) (n + 1) 1, .int .i64 s.w, .int .i64 s.d, .int .i64 s.f, .int .i64 s.c, .int .i64 s.m, .int .i64 s.de, .slice none 0 0])), (5, .cells false [.int .i64 t.p, .slice (some ⟨2, 0, some 1⟩) t.n 0, .int .i64 t.w, .int .i64 t.d, .int .i64 t.f, .int .i64 t.c, .int .i64 t.m, .int .i64 t.de, .slice (some ⟨3, 0, some 1⟩) t.k 0]), (4, .cells false [.int .i64 s.p, .slice (some ⟨0, 0, some 1⟩) (n + 1) 0, .int .i64 s.w, .int .i64 s.d, .int .i64 s.f, .int .i64 s.c, .int .i64 s.m, .int .i64 s.de, .slice (some ⟨1, 0, some 1⟩) (0) 0]), (3, .ints t.h), (2, .ints t.g), (1, .ints s.h), (0, .ints s.g)]) hX (by kernel_rfl) (by simp [decrK]) (by
    clear hX
    generalize befs _ = M
    simp [mapO, drRun, drOp, looks, guardT, tmpsOf, Op.operands, Call.operands, wantedR, gOf, natMem, tv, all1, roB, news, newOnes, decr, evOp, vOp, hOp, opd, closedV, undef, aBin, intOp, sameK, opdO, FA24_0, FA24_1, FA24_2, FA24_3, FA24_4, FA24_5, FA24_8, LD3, LD22, LD24, LDr, IA22, cellAt, lookB, Nat.beq_eq, T3, T4, T22, takeCells, getT, getT_fin, fin_length, htv, getT_set, setT_length, below, Nat.blt_eq, decrK, h23, h24, h23c, h24c, h25]
    exact ⟨by simp [dynOK, b02, b12], rfl, by simp [wheap, news], fun tm => by simp [tv, all1]⟩)
  simp only at hnx2 hwh2 htv2
  subst hnx2
  simp [ec_skip, ec_label, ek_reg, ek_draw, ek_seq, ec_cond, ek_block, ec_loop, ec_exit, ec_ret, ek_nil, ek_op, opK_some, regK_some, seqK_normal, seqK_exit, seqK_ret, blockK_normal, blockK_exit, blockK_ret, evOp, vOp, hOp, aWanted, aY, boolOf, opd, putT, closedV, undef, aBin, intOp, sameK, mapO, joinR, hasAddr, pushB, aAlloc, Value.cells, T3, T4, T22, FA24_0, FA24_1, FA24_2, FA24_3, FA24_4, FA24_5, FA24_6, FA24_7, FA24_8, LD3, LD4, LD22, LD27, LDr, LD24, LEN22, IA22, cellAt, lookB, Nat.beq_eq, takeCells, getT, setT, finF, takeM, resV, getT_set, setT_length, aStore, setB, putCells, cellV, t24, hasAddr, below, Nat.blt_eq, getT_fin, fin_length, htv2, hwh2]

set_option maxRecDepth 10000 in
set_option maxHeartbeats 8000000 in
theorem checks_reds (s t : SV) (n k : Nat) (hn : s.n = 0) (hk : s.k = k + 1) (hn' : n + 1 ≤ 200) (hk' : k + 1 ≤ 200) (hs : s.long = false) (ht : t.long = false) : ∃ H', evFn (tabT Try.prog) (inH N1) 300 kpT 3 Try.f3 [s.val, t.val2] (HS s t) = some (.bool true, H') := by
  have h15 := N1_15 s
  have h15b := N1_15b t
  have h17 := N1_17 s
  have h18 := N1_18 s
  have h19 := N1_19 s
  have h20 := N1_20 s
  have h21 := N1_21 s
  have h22 := N1_22 s
  have h25 := N1_25
  have hn2 : s.n ≤ 200 := by omega
  have hk2 : s.k ≤ 200 := by omega
  have h23 := fun nx bs => @tsame_st s t hn2 hk2 nx bs
  have h24 := fun nx bs => @rsame_st s t hn2 hk2 nx bs
  have h23c : ∀ (nx : Nat) (bs : List (Nat × ABlk)), 10 ≤ nx → decrK ((nx, .defd) :: bs) = true → below nx bs = bs → lookB (roB bs) 0 = some (.ints s.g) → lookB (roB bs) 1 = some (.ints s.h) → lookB (roB bs) 8 = some (.cells true (intsL s.h (k + 1))) → inH N1 (.func (.func 23) #[] #[]) [s.val, mkSet s (.slice none 0 0) (.slice (some ⟨8, 0, none⟩) (k + 1) 1)] ⟨nx, bs⟩ = some (.bool true, ⟨nx + 2, bs⟩) := by
    intro nx bs h8 hd hb l0 l1 l9
    have r1 : RX nx bs (.slice none 0 0) s.n s.g := by rw [hn]; exact rx_nil
    have r8 : RX nx bs (.slice (some ⟨8, 0, none⟩) (k + 1) 1) s.k s.h := by rw [hk]; exact rx_cells (by omega) l9
    exact tsame_sc s hn2 hk2 (by omega) hd hb l0 l1 r1 r8
  have h24c : ∀ (nx : Nat) (bs : List (Nat × ABlk)), 10 ≤ nx → decrK ((nx, .defd) :: bs) = true → below nx bs = bs → lookB (roB bs) 0 = some (.ints s.g) → lookB (roB bs) 1 = some (.ints s.h) → lookB (roB bs) 8 = some (.cells true (intsL s.h (k + 1))) → inH N1 (.func (.func 24) #[] #[]) [s.val, mkSet s (.slice none 0 0) (.slice (some ⟨8, 0, none⟩) (k + 1) 1)] ⟨nx, bs⟩ = some (.bool true, ⟨nx + 2, bs⟩) := by
    intro nx bs h8 hd hb l0 l1 l9
    have r1 : RX nx bs (.slice none 0 0) s.n s.g := by rw [hn]; exact rx_nil
    have r8 : RX nx bs (.slice (some ⟨8, 0, none⟩) (k + 1) 1) s.k s.h := by rw [hk]; exact rx_cells (by omega) l9
    exact rsame_sc s hn2 hk2 (by omega) hd hb l0 l1 r1 r8
  have h16 : ∀ b4 b5, inH N1 (.func (.func 16) #[] #[]) [s.val] (HL b4 b5 t.h t.g s.h s.g) = some (.agg ⟨[.int .i64 s.p, .slice none 0 0, .int .i64 s.w, .int .i64 s.d, .int .i64 s.f, .int .i64 s.c, .int .i64 s.m, .int .i64 s.de, .slice (some ⟨8, 0, none⟩) (k + 1) 1]⟩, ⟨9, [(8, .cells false (intsL s.h (k + 1))), (7, .cells false ([.int .i64 s.p, .slice none 0 0, .int .i64 s.w, .int .i64 s.d, .int .i64 s.f, .int .i64 s.c, .int .i64 s.m, .int .i64 s.de, .slice (some ⟨8, 0, none⟩) (k + 1) 1])), (6, .cells false ([.int .i64 s.p, .slice none 0 0, .int .i64 s.w, .int .i64 s.d, .int .i64 s.f, .int .i64 s.c, .int .i64 s.m, .int .i64 s.de, .slice (some ⟨8, 0, none⟩) (k + 1) 1])), (5, .cells false b5), (4, .cells false b4), (3, .ints t.h), (2, .ints t.g), (1, .ints s.h), (0, .ints s.g)]⟩) := fun b4 b5 => by
    unfold inH
    rw [call_fn F16 rfl]
    exact copy_reds _ copied_call copied_call0 s b4 b5 t.h t.g n k hn hk hn' hk'
  rw [hs] at h15
  rw [ht] at h15b
  obtain ⟨_, _, t24⟩ := T24x
  simp only [SV.val, SV.val2, mkSet, HL, hn, hk] at h15 h15b h16 h17 h18 h19 h20 h21 h22 h23 h24 h23c h24c
  simp only [evFn, Try.f3, SV.val, SV.val2, mkSet, HS, hn, hk]
  simp [ec_skip, ec_label, ek_reg, ek_draw, ek_seq, ec_cond, ek_block, ec_loop, ec_exit, ec_ret, ek_nil, ek_op, opK_some, regK_some, seqK_normal, seqK_exit, seqK_ret, blockK_normal, blockK_exit, blockK_ret, evOp, vOp, hOp, aWanted, aY, boolOf, opd, putT, closedV, undef, aBin, intOp, sameK, mapO, joinR, hasAddr, pushB, aAlloc, Value.cells, T3, T4, T22, FA24_0, FA24_1, FA24_2, FA24_3, FA24_4, FA24_5, FA24_6, FA24_7, FA24_8, LD3, LD4, LD22, LD27, LDr, LD24, LEN22, IA22, cellAt, lookB, Nat.beq_eq, takeCells, getT, setT, finF, takeM, resV, getT_set, setT_length, aStore, setB, putCells, cellV, t24, hasAddr, below, Nat.blt_eq, h15, h15b, h16]
  generalize hX : evDraw _ _ _ _ _ = X
  obtain ⟨⟨rs, nx⟩, rfl, hnx, hwh, htv⟩ := evDraw_ex (Pq := P3a 10 [(9, .cells false [.int .i64 s.p, .slice none 0 0, .int .i64 s.w, .int .i64 s.d, .int .i64 s.f, .int .i64 s.c, .int .i64 s.m, .int .i64 s.de, .slice (some ⟨8, 0, none⟩) (k + 1) 1]), (8, .cells false (intsL s.h (k + 1))), (7, .cells false ([.int .i64 s.p, .slice none 0 0, .int .i64 s.w, .int .i64 s.d, .int .i64 s.f, .int .i64 s.c, .int .i64 s.m, .int .i64 s.de, .slice (some ⟨8, 0, none⟩) (k + 1) 1])), (6, .cells false ([.int .i64 s.p, .slice none 0 0, .int .i64 s.w, .int .i64 s.d, .int .i64 s.f, .int .i64 s.c, .int .i64 s.m, .int .i64 s.de, .slice (some ⟨8, 0, none⟩) (k + 1) 1])), (5, .cells false [.int .i64 t.p, .slice (some ⟨2, 0, some 1⟩) t.n 0, .int .i64 t.w, .int .i64 t.d, .int .i64 t.f, .int .i64 t.c, .int .i64 t.m, .int .i64 t.de, .slice (some ⟨3, 0, some 1⟩) t.k 0]), (4, .cells false [.int .i64 s.p, .slice (some ⟨0, 0, some 1⟩) (0) 0, .int .i64 s.w, .int .i64 s.d, .int .i64 s.f, .int .i64 s.c, .int .i64 s.m, .int .i64 s.de, .slice (some ⟨1, 0, some 1⟩) (k + 1) 0]), (3, .ints t.h), (2, .ints t.g), (1, .ints s.h), (0, .ints s.g)]) hX (by kernel_rfl) (by simp [decrK]) (by
    clear hX
    generalize befs _ = M
    simp [mapO, drRun, drOp, looks, guardT, tmpsOf, Op.operands, Call.operands, wantedR, gOf, natMem, tv, all1, roB, news, newOnes, decr, evOp, vOp, hOp, opd, closedV, undef, aBin, intOp, sameK, opdO, FA24_0, FA24_1, FA24_2, FA24_3, FA24_4, FA24_5, FA24_8, LD3, LD22, LD24, LDr, IA22, cellAt, lookB, Nat.beq_eq, T3, T4, T22, takeCells, getT, h17, h18, h19, h20, h21, h22]
    exact ⟨by simp [dynOK, b02, b12], rfl, by simp [wheap, news], fun tm => by simp [tv, all1]⟩)
  simp only at hnx hwh htv
  subst hnx
  simp [ec_skip, ec_label, ek_reg, ek_draw, ek_seq, ec_cond, ek_block, ec_loop, ec_exit, ec_ret, ek_nil, ek_op, opK_some, regK_some, seqK_normal, seqK_exit, seqK_ret, blockK_normal, blockK_exit, blockK_ret, evOp, vOp, hOp, aWanted, aY, boolOf, opd, putT, closedV, undef, aBin, intOp, sameK, mapO, joinR, hasAddr, pushB, aAlloc, Value.cells, T3, T4, T22, FA24_0, FA24_1, FA24_2, FA24_3, FA24_4, FA24_5, FA24_6, FA24_7, FA24_8, LD3, LD4, LD22, LD27, LDr, LD24, LEN22, IA22, cellAt, lookB, Nat.beq_eq, takeCells, getT, setT, finF, takeM, resV, getT_set, setT_length, aStore, setB, putCells, cellV, t24, hasAddr, below, Nat.blt_eq, getT_fin, fin_length, htv, hwh]
  generalize hX : evDraw _ _ _ _ _ = X
  obtain ⟨⟨rs2, nx2⟩, rfl, hnx2, hwh2, htv2⟩ := evDraw_ex (Pq := P3b 18 [(9, .cells false [.int .i64 s.p, .slice none 0 0, .int .i64 s.w, .int .i64 s.d, .int .i64 s.f, .int .i64 s.c, .int .i64 s.m, .int .i64 s.de, .slice (some ⟨8, 0, none⟩) (k + 1) 1]), (8, .cells false (intsL s.h (k + 1))), (7, .cells false ([.int .i64 s.p, .slice none 0 0, .int .i64 s.w, .int .i64 s.d, .int .i64 s.f, .int .i64 s.c, .int .i64 s.m, .int .i64 s.de, .slice (some ⟨8, 0, none⟩) (k + 1) 1])), (6, .cells false ([.int .i64 s.p, .slice none 0 0, .int .i64 s.w, .int .i64 s.d, .int .i64 s.f, .int .i64 s.c, .int .i64 s.m, .int .i64 s.de, .slice (some ⟨8, 0, none⟩) (k + 1) 1])), (5, .cells false [.int .i64 t.p, .slice (some ⟨2, 0, some 1⟩) t.n 0, .int .i64 t.w, .int .i64 t.d, .int .i64 t.f, .int .i64 t.c, .int .i64 t.m, .int .i64 t.de, .slice (some ⟨3, 0, some 1⟩) t.k 0]), (4, .cells false [.int .i64 s.p, .slice (some ⟨0, 0, some 1⟩) (0) 0, .int .i64 s.w, .int .i64 s.d, .int .i64 s.f, .int .i64 s.c, .int .i64 s.m, .int .i64 s.de, .slice (some ⟨1, 0, some 1⟩) (k + 1) 0]), (3, .ints t.h), (2, .ints t.g), (1, .ints s.h), (0, .ints s.g)]) hX (by kernel_rfl) (by simp [decrK]) (by
    clear hX
    generalize befs _ = M
    simp [mapO, drRun, drOp, looks, guardT, tmpsOf, Op.operands, Call.operands, wantedR, gOf, natMem, tv, all1, roB, news, newOnes, decr, evOp, vOp, hOp, opd, closedV, undef, aBin, intOp, sameK, opdO, FA24_0, FA24_1, FA24_2, FA24_3, FA24_4, FA24_5, FA24_8, LD3, LD22, LD24, LDr, IA22, cellAt, lookB, Nat.beq_eq, T3, T4, T22, takeCells, getT, getT_fin, fin_length, htv, getT_set, setT_length, below, Nat.blt_eq, decrK, h23, h24, h23c, h24c, h25]
    exact ⟨by simp [dynOK, b02, b12], rfl, by simp [wheap, news], fun tm => by simp [tv, all1]⟩)
  simp only at hnx2 hwh2 htv2
  subst hnx2
  simp [ec_skip, ec_label, ek_reg, ek_draw, ek_seq, ec_cond, ek_block, ec_loop, ec_exit, ec_ret, ek_nil, ek_op, opK_some, regK_some, seqK_normal, seqK_exit, seqK_ret, blockK_normal, blockK_exit, blockK_ret, evOp, vOp, hOp, aWanted, aY, boolOf, opd, putT, closedV, undef, aBin, intOp, sameK, mapO, joinR, hasAddr, pushB, aAlloc, Value.cells, T3, T4, T22, FA24_0, FA24_1, FA24_2, FA24_3, FA24_4, FA24_5, FA24_6, FA24_7, FA24_8, LD3, LD4, LD22, LD27, LDr, LD24, LEN22, IA22, cellAt, lookB, Nat.beq_eq, takeCells, getT, setT, finF, takeM, resV, getT_set, setT_length, aStore, setB, putCells, cellV, t24, hasAddr, below, Nat.blt_eq, getT_fin, fin_length, htv2, hwh2]

set_option maxRecDepth 10000 in
set_option maxHeartbeats 8000000 in
theorem checks_none (s t : SV) (n k : Nat) (hn : s.n = 0) (hk : s.k = 0) (hn' : n + 1 ≤ 200) (hk' : k + 1 ≤ 200) (hs : s.long = false) (ht : t.long = false) : ∃ H', evFn (tabT Try.prog) (inH N1) 300 kpT 3 Try.f3 [s.val, t.val2] (HS s t) = some (.bool true, H') := by
  have h15 := N1_15 s
  have h15b := N1_15b t
  have h17 := N1_17 s
  have h18 := N1_18 s
  have h19 := N1_19 s
  have h20 := N1_20 s
  have h21 := N1_21 s
  have h22 := N1_22 s
  have h25 := N1_25
  have hn2 : s.n ≤ 200 := by omega
  have hk2 : s.k ≤ 200 := by omega
  have h23 := fun nx bs => @tsame_st s t hn2 hk2 nx bs
  have h24 := fun nx bs => @rsame_st s t hn2 hk2 nx bs
  have h23c : ∀ (nx : Nat) (bs : List (Nat × ABlk)), 9 ≤ nx → decrK ((nx, .defd) :: bs) = true → below nx bs = bs → lookB (roB bs) 0 = some (.ints s.g) → lookB (roB bs) 1 = some (.ints s.h) → inH N1 (.func (.func 23) #[] #[]) [s.val, mkSet s (.slice none 0 0) (.slice none 0 0)] ⟨nx, bs⟩ = some (.bool true, ⟨nx + 2, bs⟩) := by
    intro nx bs h8 hd hb l0 l1
    have r1 : RX nx bs (.slice none 0 0) s.n s.g := by rw [hn]; exact rx_nil
    have r8 : RX nx bs (.slice none 0 0) s.k s.h := by rw [hk]; exact rx_nil
    exact tsame_sc s hn2 hk2 (by omega) hd hb l0 l1 r1 r8
  have h24c : ∀ (nx : Nat) (bs : List (Nat × ABlk)), 9 ≤ nx → decrK ((nx, .defd) :: bs) = true → below nx bs = bs → lookB (roB bs) 0 = some (.ints s.g) → lookB (roB bs) 1 = some (.ints s.h) → inH N1 (.func (.func 24) #[] #[]) [s.val, mkSet s (.slice none 0 0) (.slice none 0 0)] ⟨nx, bs⟩ = some (.bool true, ⟨nx + 2, bs⟩) := by
    intro nx bs h8 hd hb l0 l1
    have r1 : RX nx bs (.slice none 0 0) s.n s.g := by rw [hn]; exact rx_nil
    have r8 : RX nx bs (.slice none 0 0) s.k s.h := by rw [hk]; exact rx_nil
    exact rsame_sc s hn2 hk2 (by omega) hd hb l0 l1 r1 r8
  have h16 : ∀ b4 b5, inH N1 (.func (.func 16) #[] #[]) [s.val] (HL b4 b5 t.h t.g s.h s.g) = some (.agg ⟨[.int .i64 s.p, .slice none 0 0, .int .i64 s.w, .int .i64 s.d, .int .i64 s.f, .int .i64 s.c, .int .i64 s.m, .int .i64 s.de, .slice none 0 0]⟩, ⟨8, [(5, .cells false b5), (4, .cells false b4), (3, .ints t.h), (2, .ints t.g), (1, .ints s.h), (0, .ints s.g)]⟩) := fun b4 b5 => by
    unfold inH
    rw [call_fn F16 rfl]
    exact copy_none _ copied_call copied_call0 s b4 b5 t.h t.g n k hn hk hn' hk'
  rw [hs] at h15
  rw [ht] at h15b
  obtain ⟨_, _, t24⟩ := T24x
  simp only [SV.val, SV.val2, mkSet, HL, hn, hk] at h15 h15b h16 h17 h18 h19 h20 h21 h22 h23 h24 h23c h24c
  simp only [evFn, Try.f3, SV.val, SV.val2, mkSet, HS, hn, hk]
  simp [ec_skip, ec_label, ek_reg, ek_draw, ek_seq, ec_cond, ek_block, ec_loop, ec_exit, ec_ret, ek_nil, ek_op, opK_some, regK_some, seqK_normal, seqK_exit, seqK_ret, blockK_normal, blockK_exit, blockK_ret, evOp, vOp, hOp, aWanted, aY, boolOf, opd, putT, closedV, undef, aBin, intOp, sameK, mapO, joinR, hasAddr, pushB, aAlloc, Value.cells, T3, T4, T22, FA24_0, FA24_1, FA24_2, FA24_3, FA24_4, FA24_5, FA24_6, FA24_7, FA24_8, LD3, LD4, LD22, LD27, LDr, LD24, LEN22, IA22, cellAt, lookB, Nat.beq_eq, takeCells, getT, setT, finF, takeM, resV, getT_set, setT_length, aStore, setB, putCells, cellV, t24, hasAddr, below, Nat.blt_eq, h15, h15b, h16]
  generalize hX : evDraw _ _ _ _ _ = X
  obtain ⟨⟨rs, nx⟩, rfl, hnx, hwh, htv⟩ := evDraw_ex (Pq := P3a 9 [(8, .cells false [.int .i64 s.p, .slice none 0 0, .int .i64 s.w, .int .i64 s.d, .int .i64 s.f, .int .i64 s.c, .int .i64 s.m, .int .i64 s.de, .slice none 0 0]), (5, .cells false [.int .i64 t.p, .slice (some ⟨2, 0, some 1⟩) t.n 0, .int .i64 t.w, .int .i64 t.d, .int .i64 t.f, .int .i64 t.c, .int .i64 t.m, .int .i64 t.de, .slice (some ⟨3, 0, some 1⟩) t.k 0]), (4, .cells false [.int .i64 s.p, .slice (some ⟨0, 0, some 1⟩) (0) 0, .int .i64 s.w, .int .i64 s.d, .int .i64 s.f, .int .i64 s.c, .int .i64 s.m, .int .i64 s.de, .slice (some ⟨1, 0, some 1⟩) (0) 0]), (3, .ints t.h), (2, .ints t.g), (1, .ints s.h), (0, .ints s.g)]) hX (by kernel_rfl) (by simp [decrK]) (by
    clear hX
    generalize befs _ = M
    simp [mapO, drRun, drOp, looks, guardT, tmpsOf, Op.operands, Call.operands, wantedR, gOf, natMem, tv, all1, roB, news, newOnes, decr, evOp, vOp, hOp, opd, closedV, undef, aBin, intOp, sameK, opdO, FA24_0, FA24_1, FA24_2, FA24_3, FA24_4, FA24_5, FA24_8, LD3, LD22, LD24, LDr, IA22, cellAt, lookB, Nat.beq_eq, T3, T4, T22, takeCells, getT, h17, h18, h19, h20, h21, h22]
    exact ⟨by simp [dynOK, b02, b12], rfl, by simp [wheap, news], fun tm => by simp [tv, all1]⟩)
  simp only at hnx hwh htv
  subst hnx
  simp [ec_skip, ec_label, ek_reg, ek_draw, ek_seq, ec_cond, ek_block, ec_loop, ec_exit, ec_ret, ek_nil, ek_op, opK_some, regK_some, seqK_normal, seqK_exit, seqK_ret, blockK_normal, blockK_exit, blockK_ret, evOp, vOp, hOp, aWanted, aY, boolOf, opd, putT, closedV, undef, aBin, intOp, sameK, mapO, joinR, hasAddr, pushB, aAlloc, Value.cells, T3, T4, T22, FA24_0, FA24_1, FA24_2, FA24_3, FA24_4, FA24_5, FA24_6, FA24_7, FA24_8, LD3, LD4, LD22, LD27, LDr, LD24, LEN22, IA22, cellAt, lookB, Nat.beq_eq, takeCells, getT, setT, finF, takeM, resV, getT_set, setT_length, aStore, setB, putCells, cellV, t24, hasAddr, below, Nat.blt_eq, getT_fin, fin_length, htv, hwh]
  generalize hX : evDraw _ _ _ _ _ = X
  obtain ⟨⟨rs2, nx2⟩, rfl, hnx2, hwh2, htv2⟩ := evDraw_ex (Pq := P3b 17 [(8, .cells false [.int .i64 s.p, .slice none 0 0, .int .i64 s.w, .int .i64 s.d, .int .i64 s.f, .int .i64 s.c, .int .i64 s.m, .int .i64 s.de, .slice none 0 0]), (5, .cells false [.int .i64 t.p, .slice (some ⟨2, 0, some 1⟩) t.n 0, .int .i64 t.w, .int .i64 t.d, .int .i64 t.f, .int .i64 t.c, .int .i64 t.m, .int .i64 t.de, .slice (some ⟨3, 0, some 1⟩) t.k 0]), (4, .cells false [.int .i64 s.p, .slice (some ⟨0, 0, some 1⟩) (0) 0, .int .i64 s.w, .int .i64 s.d, .int .i64 s.f, .int .i64 s.c, .int .i64 s.m, .int .i64 s.de, .slice (some ⟨1, 0, some 1⟩) (0) 0]), (3, .ints t.h), (2, .ints t.g), (1, .ints s.h), (0, .ints s.g)]) hX (by kernel_rfl) (by simp [decrK]) (by
    clear hX
    generalize befs _ = M
    simp [mapO, drRun, drOp, looks, guardT, tmpsOf, Op.operands, Call.operands, wantedR, gOf, natMem, tv, all1, roB, news, newOnes, decr, evOp, vOp, hOp, opd, closedV, undef, aBin, intOp, sameK, opdO, FA24_0, FA24_1, FA24_2, FA24_3, FA24_4, FA24_5, FA24_8, LD3, LD22, LD24, LDr, IA22, cellAt, lookB, Nat.beq_eq, T3, T4, T22, takeCells, getT, getT_fin, fin_length, htv, getT_set, setT_length, below, Nat.blt_eq, decrK, h23, h24, h23c, h24c, h25]
    exact ⟨by simp [dynOK, b02, b12], rfl, by simp [wheap, news], fun tm => by simp [tv, all1]⟩)
  simp only at hnx2 hwh2 htv2
  subst hnx2
  simp [ec_skip, ec_label, ek_reg, ek_draw, ek_seq, ec_cond, ek_block, ec_loop, ec_exit, ec_ret, ek_nil, ek_op, opK_some, regK_some, seqK_normal, seqK_exit, seqK_ret, blockK_normal, blockK_exit, blockK_ret, evOp, vOp, hOp, aWanted, aY, boolOf, opd, putT, closedV, undef, aBin, intOp, sameK, mapO, joinR, hasAddr, pushB, aAlloc, Value.cells, T3, T4, T22, FA24_0, FA24_1, FA24_2, FA24_3, FA24_4, FA24_5, FA24_6, FA24_7, FA24_8, LD3, LD4, LD22, LD27, LDr, LD24, LEN22, IA22, cellAt, lookB, Nat.beq_eq, takeCells, getT, setT, finF, takeM, resV, getT_set, setT_length, aStore, setB, putCells, cellV, t24, hasAddr, below, Nat.blt_eq, getT_fin, fin_length, htv2, hwh2]

end Go.Proofs.Ytkoppbbmdjhaoaa
