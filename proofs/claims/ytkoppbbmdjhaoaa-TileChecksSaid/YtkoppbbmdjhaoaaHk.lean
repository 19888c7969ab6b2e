/-
  What is proved: what slices.Equal answers of two lists of integers, wherever they lie.
-/
import Derived.Test.YtkoppbbmdjhaoaaHg
namespace Go.Proofs.Ytkoppbbmdjhaoaa
open Go.RowKit
set_option linter.unusedSimpArgs false

theorem F81 : tabF Try.prog 81 = some Try.f81 := by kernel_rfl

/-- A list of n integers g, as the operations of a run read it. -/
def Reads (bs : List (Nat × ABlk)) (x : Value) (n : Nat) (g : Nat → Int) : Prop :=
  (∃ a z, x = .slice a n z) ∧ ∀ i : Nat, i < n → ∃ p, aIndexAddr (tabT Try.prog) 22 x (.int .i64 (i : Int)) = some p ∧ (∀ lo, aLoad (tabT Try.prog) ⟨lo, roB bs⟩ 3 p = some (.int .i64 (g i)))

def eqG (g h : Nat → Int) : Nat → Nat → Bool
  | 0, _ => true
  | m + 1, i => if g i = h i then eqG g h m (i + 1) else false

def I81 (x y : Value) (n : Nat) (g h : Nat → Int) (H0 : AH) (m : Nat) (A : AF) (H : AH) : Prop := ∃ (i : Nat), i + m = n ∧ eqG g h m i = eqG g h n 0 ∧ A.tm.length = 26 ∧ A.marks = [] ∧ getT A.tm 13 = .int .i64 (i : Int) ∧ getT A.tm 12 = .int .i64 n ∧ getT A.tm 0 = x ∧ getT A.tm 1 = y ∧ H = H0
def Q81 (n : Nat) (g h : Nat → Int) (H0 : AH) (z : AX) (A' : AF) (H : AH) : Prop := A'.tm.length = 26 ∧ A'.marks = [] ∧ H = H0 ∧ ((z = .exit 0 ∧ eqG g h n 0 = true) ∨ (z = .ret ∧ eqG g h n 0 = false ∧ getT A'.tm 4 = .bool false))
def P81 (nx : Nat) (bs : List (Nat × ABlk)) (R : Bool) (r : List DR × Nat) : Prop := r.2 = nx ∧ wheap bs r.1 = bs ∧ ∀ tm, tv tm all1 r.1 24 = .bool R ∧ tv tm all1 r.1 0 = getT tm 0 ∧ tv tm all1 r.1 1 = getT tm 1 ∧ tv tm all1 r.1 12 = getT tm 12 ∧ tv tm all1 r.1 13 = getT tm 13

set_option maxRecDepth 10000 in
set_option maxHeartbeats 8000000 in
theorem equal_ev (call : Value → List Value → AH → Option (Value × AH)) {x y : Value} {n m : Nat} {g h : Nat → Int} {nx : Nat} {bs : List (Nat × ABlk)} (hd : decrK bs = true) (hnew : newOnes nx (roB bs) = []) (hx : Reads bs x n g) (hy : Reads bs y m h) (hn : n ≤ 200) :
    evFn (tabT Try.prog) call 300 kpT 81 Try.f81 [x, y] ⟨nx, bs⟩ = some (.bool (decide (n = m) && eqG g h n 0), ⟨nx, below nx bs⟩) := by
  obtain ⟨⟨xa, xz, ex⟩, hx⟩ := hx
  obtain ⟨⟨ya, yz, ey⟩, hy⟩ := hy
  have lx : aLen (tabT Try.prog) 22 x = some (.int .i64 n) := by rw [ex]; exact LEN22 _ _ _
  have ly : aLen (tabT Try.prog) 22 y = some (.int .i64 m) := by rw [ey]; exact LEN22 _ _ _
  clear ex ey
  simp only [evFn, Try.f81]
  by_cases c1 : n = m
  rotate_left
  · have c1' : ((n : Int) != (m : Int)) = true := by simp only [bne_iff_ne]; omega
    simp [ec_skip, ec_label, ek_reg, ek_draw, ek_seq, ec_cond, ek_block, ec_loop, ec_exit, ec_ret, ek_nil, ek_op, opK_some, regK_some, seqK_normal, seqK_exit, seqK_ret, blockK_normal, blockK_exit, blockK_ret, evOp, vOp, hOp, aWanted, aY, boolOf, opd, putT, closedV, undef, aBin, intOp, sameK, mapO, joinR, hasAddr, pushB, aAlloc, Value.cells, T3, T4, T22, FA24_0, FA24_1, FA24_2, FA24_3, FA24_4, FA24_5, FA24_6, FA24_7, FA24_8, LD3, LD4, LD22, LD27, LDr, LD24, LEN22, IA22, cellAt, lookB, Nat.beq_eq, takeCells, getT, setT, finF, takeM, resV, getT_set, setT_length, lx, ly, c1, c1', cleaned, kpT]
  subst c1
  simp [ec_skip, ec_label, ek_reg, ek_draw, ek_seq, ec_cond, ek_block, ec_loop, ec_exit, ec_ret, ek_nil, ek_op, opK_some, regK_some, seqK_normal, seqK_exit, seqK_ret, blockK_normal, blockK_exit, blockK_ret, evOp, vOp, hOp, aWanted, aY, boolOf, opd, putT, closedV, undef, aBin, intOp, sameK, mapO, joinR, hasAddr, pushB, aAlloc, Value.cells, T3, T4, T22, FA24_0, FA24_1, FA24_2, FA24_3, FA24_4, FA24_5, FA24_6, FA24_7, FA24_8, LD3, LD4, LD22, LD27, LDr, LD24, LEN22, IA22, cellAt, lookB, Nat.beq_eq, takeCells, getT, setT, finF, takeM, resV, getT_set, setT_length, lx, ly]
  generalize hr : evLoop _ _ _ _ = r
  obtain ⟨z, A', H', rfl, hl, hmk, rfl, hz⟩ := loop_go (Q := Q81 n g h ⟨nx, bs⟩) hr (I81 x y n g h ⟨nx, bs⟩) n (by omega) ⟨0, by omega, rfl, rfl, rfl, rfl, rfl, rfl, rfl, rfl⟩ (by
      clear hr
      rintro m A H ⟨i, him, hres, hl, hmk, h13, h12, h0, h1, rfl⟩
      simp only [runC]
      cases m with
      | zero =>
        have hi : ¬ i < n := by omega
        rw [eqG] at hres
        simp [ec_skip, ec_label, ek_reg, ek_draw, ek_seq, ec_cond, ek_block, ec_loop, ec_exit, ec_ret, ek_nil, ek_op, opK_some, regK_some, seqK_normal, seqK_exit, seqK_ret, blockK_normal, blockK_exit, blockK_ret, evOp, vOp, hOp, aWanted, aY, boolOf, opd, putT, closedV, undef, aBin, intOp, sameK, mapO, joinR, hasAddr, pushB, aAlloc, Value.cells, T3, T4, T22, FA24_0, FA24_1, FA24_2, FA24_3, FA24_4, FA24_5, FA24_6, FA24_7, FA24_8, LD3, LD4, LD22, LD27, LDr, LD24, LEN22, IA22, cellAt, lookB, Nat.beq_eq, takeCells, getT_set, setT_length, hl, hmk, h13, h12, h0, h1, hi]
        exact .inr ⟨by simp, by simp [setT_length, hl], rfl, rfl, .inl ⟨rfl, hres.symm⟩⟩
      | succ m =>
        have hi : i < n := by omega
        have hw : wrapI .i64 ((i : Int) + 1) = ((i + 1 : Nat) : Int) := by rw [wrapI_small (by omega) (by omega)]; rfl
        rw [eqG] at hres
        obtain ⟨p, hp, hpl⟩ := hx i hi
        obtain ⟨q, hq, hql⟩ := hy i hi
        simp [ec_skip, ec_label, ek_reg, ek_draw, ek_seq, ec_cond, ek_block, ec_loop, ec_exit, ec_ret, ek_nil, ek_op, opK_some, regK_some, seqK_normal, seqK_exit, seqK_ret, blockK_normal, blockK_exit, blockK_ret, evOp, vOp, hOp, aWanted, aY, boolOf, opd, putT, closedV, undef, aBin, intOp, sameK, mapO, joinR, hasAddr, pushB, aAlloc, Value.cells, T3, T4, T22, FA24_0, FA24_1, FA24_2, FA24_3, FA24_4, FA24_5, FA24_6, FA24_7, FA24_8, LD3, LD4, LD22, LD27, LDr, LD24, LEN22, IA22, cellAt, lookB, Nat.beq_eq, takeCells, getT_set, setT_length, hl, hmk, h13, h12, h0, h1, hi]
        generalize hX : evDraw _ _ _ _ _ = X
        obtain ⟨⟨rs, ny⟩, rfl, hnx, hwh, htv⟩ := evDraw_ex (Pq := P81 nx bs (g i != h i)) hX (by kernel_rfl) hd (by
          clear hX
          generalize befs _ = M
          simp [mapO, drRun, drOp, looks, guardT, tmpsOf, Op.operands, Call.operands, wantedR, gOf, natMem, tv, all1, roB, news, newOnes, decr, evOp, vOp, hOp, opd, closedV, undef, aBin, intOp, sameK, opdO, Nat.beq_eq, T3, T4, T22, takeCells, getT_set, setT_length, hl, h13, h12, h0, h1, hp, hq, hpl, hql, hnew]
          exact ⟨by simp [dynOK, b02, b12], rfl, by simp [wheap, news], fun tm => by simp [tv, all1]⟩)
        simp only at hnx hwh htv
        subst hnx
        by_cases c2 : g i = h i
        · have c2' : (g i != h i) = false := by simpa using c2
          rw [if_pos c2] at hres
          rw [c2'] at htv
          simp [ec_skip, ec_label, ek_reg, ek_draw, ek_seq, ec_cond, ek_block, ec_loop, ec_exit, ec_ret, ek_nil, ek_op, opK_some, regK_some, seqK_normal, seqK_exit, seqK_ret, blockK_normal, blockK_exit, blockK_ret, evOp, vOp, hOp, aWanted, aY, boolOf, opd, putT, closedV, undef, aBin, intOp, sameK, mapO, joinR, hasAddr, pushB, aAlloc, Value.cells, T3, T4, T22, FA24_0, FA24_1, FA24_2, FA24_3, FA24_4, FA24_5, FA24_6, FA24_7, FA24_8, LD3, LD4, LD22, LD27, LDr, LD24, LEN22, IA22, cellAt, lookB, Nat.beq_eq, takeCells, getT_fin, fin_length, htv, getT_set, setT_length, hl, hmk, h13, h12, h0, h1, hwh]
          refine ⟨_, _, _, ⟨rfl, rfl, rfl⟩, .inl ⟨rfl, m, rfl, i + 1, by omega, hres, ?_⟩⟩
          simp [getT_fin, fin_length, htv, getT_set, setT_length, hl, h13, h12, h0, h1, hw]
        · have c2' : (g i != h i) = true := by simpa using c2
          rw [if_neg c2] at hres
          rw [c2'] at htv
          simp [ec_skip, ec_label, ek_reg, ek_draw, ek_seq, ec_cond, ek_block, ec_loop, ec_exit, ec_ret, ek_nil, ek_op, opK_some, regK_some, seqK_normal, seqK_exit, seqK_ret, blockK_normal, blockK_exit, blockK_ret, evOp, vOp, hOp, aWanted, aY, boolOf, opd, putT, closedV, undef, aBin, intOp, sameK, mapO, joinR, hasAddr, pushB, aAlloc, Value.cells, T3, T4, T22, FA24_0, FA24_1, FA24_2, FA24_3, FA24_4, FA24_5, FA24_6, FA24_7, FA24_8, LD3, LD4, LD22, LD27, LDr, LD24, LEN22, IA22, cellAt, lookB, Nat.beq_eq, takeCells, getT_fin, fin_length, htv, getT_set, setT_length, hl, hmk, h13, h12, h0, h1, hwh]
          exact ⟨_, _, _, ⟨rfl, rfl, rfl⟩, .inr ⟨by simp, by simp [setT_length, fin_length, hl], rfl, rfl, .inr ⟨rfl, hres.symm, by simp [getT_fin, fin_length, getT_set, setT_length, hl]⟩⟩⟩)
  rcases hz with ⟨rfl, hz⟩ | ⟨rfl, hz, h4⟩
  · simp [ec_skip, ec_label, ek_reg, ek_draw, ek_seq, ec_cond, ek_block, ec_loop, ec_exit, ec_ret, ek_nil, ek_op, opK_some, regK_some, seqK_normal, seqK_exit, seqK_ret, blockK_normal, blockK_exit, blockK_ret, evOp, vOp, hOp, aWanted, aY, boolOf, opd, putT, closedV, undef, aBin, intOp, sameK, mapO, joinR, hasAddr, pushB, aAlloc, Value.cells, T3, T4, T22, FA24_0, FA24_1, FA24_2, FA24_3, FA24_4, FA24_5, FA24_6, FA24_7, FA24_8, LD3, LD4, LD22, LD27, LDr, LD24, LEN22, IA22, cellAt, lookB, Nat.beq_eq, takeCells, finF, takeM, resV, getT_set, setT_length, hl, hmk, hz, cleaned, kpT]
  · simp [ec_skip, ec_label, ek_reg, ek_draw, ek_seq, ec_cond, ek_block, ec_loop, ec_exit, ec_ret, ek_nil, ek_op, opK_some, regK_some, seqK_normal, seqK_exit, seqK_ret, blockK_normal, blockK_exit, blockK_ret, evOp, vOp, hOp, aWanted, aY, boolOf, opd, putT, closedV, undef, aBin, intOp, sameK, mapO, joinR, hasAddr, pushB, aAlloc, Value.cells, T3, T4, T22, FA24_0, FA24_1, FA24_2, FA24_3, FA24_4, FA24_5, FA24_6, FA24_7, FA24_8, LD3, LD4, LD22, LD27, LDr, LD24, LEN22, IA22, cellAt, lookB, Nat.beq_eq, takeCells, finF, takeM, resV, getT_set, setT_length, hl, hmk, hz, h4, cleaned, kpT]

theorem F82 : tabF Try.prog 82 = some Try.f82 := by kernel_rfl

def I82 (x y : Value) (k : Nat) (g h : Nat → Int) (H0 : AH) (r : Nat) (A : AF) (H : AH) : Prop := ∃ (i : Nat), i + r = k ∧ eqG g h r i = eqG g h k 0 ∧ A.tm.length = 32 ∧ A.marks = [] ∧ getT A.tm 5 = .int .i64 (i : Int) ∧ getT A.tm 0 = x ∧ getT A.tm 1 = y ∧ H = H0
def Q82 (x y : Value) (k : Nat) (g h : Nat → Int) (H0 : AH) (z : AX) (A' : AF) (H : AH) : Prop := A'.tm.length = 32 ∧ A'.marks = [] ∧ H = H0 ∧ ((z = .exit 0 ∧ eqG g h k 0 = true ∧ getT A'.tm 0 = x ∧ getT A'.tm 1 = y) ∨ (z = .ret ∧ eqG g h k 0 = false ∧ getT A'.tm 4 = .bool false))
def P82 (nx : Nat) (bs : List (Nat × ABlk)) (R : Bool) (r : List DR × Nat) : Prop := r.2 = nx ∧ wheap bs r.1 = bs ∧ ∀ tm, tv tm all1 r.1 26 = .bool R ∧ tv tm all1 r.1 0 = getT tm 0 ∧ tv tm all1 r.1 1 = getT tm 1 ∧ tv tm all1 r.1 5 = getT tm 5

set_option maxRecDepth 10000 in
set_option maxHeartbeats 8000000 in
theorem sameInts_ev (call : Value → List Value → AH → Option (Value × AH)) {x y : Value} {n m : Nat} {g h : Nat → Int} {nx : Nat} {bs : List (Nat × ABlk)} (hd : decrK bs = true) (hnew : newOnes nx (roB bs) = []) (hx : Reads bs x n g) (hy : Reads bs y m h) (hn : n ≤ 200) :
    evFn (tabT Try.prog) call 300 kpT 82 Try.f82 [x, y] ⟨nx, bs⟩ = some (.bool (decide (n = m) && eqG g h n 0), ⟨nx, below nx bs⟩) := by
  obtain ⟨⟨xa, xz, ex⟩, hx⟩ := hx
  obtain ⟨⟨ya, yz, ey⟩, hy⟩ := hy
  have lx : aLen (tabT Try.prog) 22 x = some (.int .i64 n) := by rw [ex]; exact LEN22 _ _ _
  have ly : aLen (tabT Try.prog) 22 y = some (.int .i64 m) := by rw [ey]; exact LEN22 _ _ _
  clear ex ey
  simp only [evFn, Try.f82]
  have hk : ∃ k, k ≤ n ∧ k ≤ m ∧ (k = n ∨ k = m) := by
    rcases Nat.le_total n m with e | e
    · exact ⟨n, Nat.le_refl _, e, .inl rfl⟩
    · exact ⟨m, e, Nat.le_refl _, .inr rfl⟩
  obtain ⟨k, hkn, hkm, hknm⟩ := hk
  simp [ec_skip, ec_label, ek_reg, ek_draw, ek_seq, ec_cond, ek_block, ec_loop, ec_exit, ec_ret, ek_nil, ek_op, opK_some, regK_some, seqK_normal, seqK_exit, seqK_ret, blockK_normal, blockK_exit, blockK_ret, evOp, vOp, hOp, aWanted, aY, boolOf, opd, putT, closedV, undef, aBin, intOp, sameK, mapO, joinR, hasAddr, pushB, aAlloc, Value.cells, T3, T4, T22, FA24_0, FA24_1, FA24_2, FA24_3, FA24_4, FA24_5, FA24_6, FA24_7, FA24_8, LD3, LD4, LD22, LD27, LDr, LD24, LEN22, IA22, cellAt, lookB, Nat.beq_eq, takeCells, getT, setT, finF, takeM, resV, getT_set, setT_length]
  generalize hr : evLoop _ _ _ _ = r
  obtain ⟨z, A', H', rfl, hl, hmk, rfl, hz⟩ := loop_go (Q := Q82 x y k g h ⟨nx, bs⟩) hr (I82 x y k g h ⟨nx, bs⟩) k (by omega) ⟨0, by omega, rfl, rfl, rfl, rfl, rfl, rfl, rfl⟩ (by
      clear hr
      rintro r A H ⟨i, him, hres, hl, hmk, h5, h0, h1, rfl⟩
      simp only [runC]
      cases r with
      | zero =>
        rw [eqG] at hres
        by_cases hi1 : i < n
        · have hi2 : ¬ i < m := by omega
          simp [ec_skip, ec_label, ek_reg, ek_draw, ek_seq, ec_cond, ek_block, ec_loop, ec_exit, ec_ret, ek_nil, ek_op, opK_some, regK_some, seqK_normal, seqK_exit, seqK_ret, blockK_normal, blockK_exit, blockK_ret, evOp, vOp, hOp, aWanted, aY, boolOf, opd, putT, closedV, undef, aBin, intOp, sameK, mapO, joinR, hasAddr, pushB, aAlloc, Value.cells, T3, T4, T22, FA24_0, FA24_1, FA24_2, FA24_3, FA24_4, FA24_5, FA24_6, FA24_7, FA24_8, LD3, LD4, LD22, LD27, LDr, LD24, LEN22, IA22, cellAt, lookB, Nat.beq_eq, takeCells, getT_set, setT_length, hl, hmk, h5, h0, h1, lx, ly, hi1, hi2]
          exact .inr ⟨by simp, by simp [setT_length, hl], rfl, rfl, .inl ⟨rfl, hres.symm, by simp [getT_set, setT_length, hl, h0], by simp [getT_set, setT_length, hl, h1]⟩⟩
        · simp [ec_skip, ec_label, ek_reg, ek_draw, ek_seq, ec_cond, ek_block, ec_loop, ec_exit, ec_ret, ek_nil, ek_op, opK_some, regK_some, seqK_normal, seqK_exit, seqK_ret, blockK_normal, blockK_exit, blockK_ret, evOp, vOp, hOp, aWanted, aY, boolOf, opd, putT, closedV, undef, aBin, intOp, sameK, mapO, joinR, hasAddr, pushB, aAlloc, Value.cells, T3, T4, T22, FA24_0, FA24_1, FA24_2, FA24_3, FA24_4, FA24_5, FA24_6, FA24_7, FA24_8, LD3, LD4, LD22, LD27, LDr, LD24, LEN22, IA22, cellAt, lookB, Nat.beq_eq, takeCells, getT_set, setT_length, hl, hmk, h5, h0, h1, lx, ly, hi1]
          exact .inr ⟨by simp, by simp [setT_length, hl], rfl, rfl, .inl ⟨rfl, hres.symm, by simp [getT_set, setT_length, hl, h0], by simp [getT_set, setT_length, hl, h1]⟩⟩
      | succ r =>
        have hi1 : i < n := by omega
        have hi2 : i < m := by omega
        have hw : wrapI .i64 ((i : Int) + 1) = ((i + 1 : Nat) : Int) := by rw [wrapI_small (by omega) (by omega)]; rfl
        rw [eqG] at hres
        obtain ⟨p, hp, hpl⟩ := hx i hi1
        obtain ⟨q, hq, hql⟩ := hy i hi2
        simp [ec_skip, ec_label, ek_reg, ek_draw, ek_seq, ec_cond, ek_block, ec_loop, ec_exit, ec_ret, ek_nil, ek_op, opK_some, regK_some, seqK_normal, seqK_exit, seqK_ret, blockK_normal, blockK_exit, blockK_ret, evOp, vOp, hOp, aWanted, aY, boolOf, opd, putT, closedV, undef, aBin, intOp, sameK, mapO, joinR, hasAddr, pushB, aAlloc, Value.cells, T3, T4, T22, FA24_0, FA24_1, FA24_2, FA24_3, FA24_4, FA24_5, FA24_6, FA24_7, FA24_8, LD3, LD4, LD22, LD27, LDr, LD24, LEN22, IA22, cellAt, lookB, Nat.beq_eq, takeCells, getT_set, setT_length, hl, hmk, h5, h0, h1, lx, ly, hi1, hi2]
        generalize hX : evDraw _ _ _ _ _ = X
        obtain ⟨⟨rs, ny⟩, rfl, hnx, hwh, htv⟩ := evDraw_ex (Pq := P82 nx bs (g i != h i)) hX (by kernel_rfl) hd (by
          clear hX
          generalize befs _ = M
          simp [mapO, drRun, drOp, looks, guardT, tmpsOf, Op.operands, Call.operands, wantedR, gOf, natMem, tv, all1, roB, news, newOnes, decr, evOp, vOp, hOp, opd, closedV, undef, aBin, intOp, sameK, opdO, Nat.beq_eq, T3, T4, T22, takeCells, getT_set, setT_length, hl, h5, h0, h1, hp, hq, hpl, hql, hnew]
          exact ⟨by simp [dynOK, b02, b12], rfl, by simp [wheap, news], fun tm => by simp [tv, all1]⟩)
        simp only at hnx hwh htv
        subst hnx
        by_cases c2 : g i = h i
        · have c2' : (g i != h i) = false := by simpa using c2
          rw [if_pos c2] at hres
          rw [c2'] at htv
          simp [ec_skip, ec_label, ek_reg, ek_draw, ek_seq, ec_cond, ek_block, ec_loop, ec_exit, ec_ret, ek_nil, ek_op, opK_some, regK_some, seqK_normal, seqK_exit, seqK_ret, blockK_normal, blockK_exit, blockK_ret, evOp, vOp, hOp, aWanted, aY, boolOf, opd, putT, closedV, undef, aBin, intOp, sameK, mapO, joinR, hasAddr, pushB, aAlloc, Value.cells, T3, T4, T22, FA24_0, FA24_1, FA24_2, FA24_3, FA24_4, FA24_5, FA24_6, FA24_7, FA24_8, LD3, LD4, LD22, LD27, LDr, LD24, LEN22, IA22, cellAt, lookB, Nat.beq_eq, takeCells, getT_fin, fin_length, htv, getT_set, setT_length, hl, hmk, h5, h0, h1, hwh]
          refine ⟨_, _, _, ⟨rfl, rfl, rfl⟩, .inl ⟨rfl, r, rfl, i + 1, by omega, hres, ?_⟩⟩
          simp [getT_fin, fin_length, htv, getT_set, setT_length, hl, h5, h0, h1, hw]
        · have c2' : (g i != h i) = true := by simpa using c2
          rw [if_neg c2] at hres
          rw [c2'] at htv
          simp [ec_skip, ec_label, ek_reg, ek_draw, ek_seq, ec_cond, ek_block, ec_loop, ec_exit, ec_ret, ek_nil, ek_op, opK_some, regK_some, seqK_normal, seqK_exit, seqK_ret, blockK_normal, blockK_exit, blockK_ret, evOp, vOp, hOp, aWanted, aY, boolOf, opd, putT, closedV, undef, aBin, intOp, sameK, mapO, joinR, hasAddr, pushB, aAlloc, Value.cells, T3, T4, T22, FA24_0, FA24_1, FA24_2, FA24_3, FA24_4, FA24_5, FA24_6, FA24_7, FA24_8, LD3, LD4, LD22, LD27, LDr, LD24, LEN22, IA22, cellAt, lookB, Nat.beq_eq, takeCells, getT_fin, fin_length, htv, getT_set, setT_length, hl, hmk, h5, h0, h1, hwh]
          exact ⟨_, _, _, ⟨rfl, rfl, rfl⟩, .inr ⟨by simp, by simp [setT_length, fin_length, hl], rfl, rfl, .inr ⟨rfl, hres.symm, by simp [getT_fin, fin_length, getT_set, setT_length, hl]⟩⟩⟩)
  rcases hz with ⟨rfl, hz, h0, h1⟩ | ⟨rfl, hz, h4⟩
  · by_cases c1 : n = m
    · have hkk : k = n := by omega
      subst hkk
      subst c1
      simp [ec_skip, ec_label, ek_reg, ek_draw, ek_seq, ec_cond, ek_block, ec_loop, ec_exit, ec_ret, ek_nil, ek_op, opK_some, regK_some, seqK_normal, seqK_exit, seqK_ret, blockK_normal, blockK_exit, blockK_ret, evOp, vOp, hOp, aWanted, aY, boolOf, opd, putT, closedV, undef, aBin, intOp, sameK, mapO, joinR, hasAddr, pushB, aAlloc, Value.cells, T3, T4, T22, FA24_0, FA24_1, FA24_2, FA24_3, FA24_4, FA24_5, FA24_6, FA24_7, FA24_8, LD3, LD4, LD22, LD27, LDr, LD24, LEN22, IA22, cellAt, lookB, Nat.beq_eq, takeCells, finF, takeM, resV, getT_set, setT_length, hl, hmk, h0, h1, lx, ly, hz, cleaned, kpT]
    · have c1' : ((n : Int) == (m : Int)) = false := by simp only [beq_eq_false_iff_ne]; omega
      simp [ec_skip, ec_label, ek_reg, ek_draw, ek_seq, ec_cond, ek_block, ec_loop, ec_exit, ec_ret, ek_nil, ek_op, opK_some, regK_some, seqK_normal, seqK_exit, seqK_ret, blockK_normal, blockK_exit, blockK_ret, evOp, vOp, hOp, aWanted, aY, boolOf, opd, putT, closedV, undef, aBin, intOp, sameK, mapO, joinR, hasAddr, pushB, aAlloc, Value.cells, T3, T4, T22, FA24_0, FA24_1, FA24_2, FA24_3, FA24_4, FA24_5, FA24_6, FA24_7, FA24_8, LD3, LD4, LD22, LD27, LDr, LD24, LEN22, IA22, cellAt, lookB, Nat.beq_eq, takeCells, finF, takeM, resV, getT_set, setT_length, hl, hmk, h0, h1, lx, ly, c1, c1', cleaned, kpT]
  · have hfin : (decide (n = m) && eqG g h n 0) = false := by
      by_cases c1 : n = m
      · have hkk : k = n := by omega
        subst hkk
        simp [hz]
      · simp [c1]
    rw [hfin]
    simp [ec_skip, ec_label, ek_reg, ek_draw, ek_seq, ec_cond, ek_block, ec_loop, ec_exit, ec_ret, ek_nil, ek_op, opK_some, regK_some, seqK_normal, seqK_exit, seqK_ret, blockK_normal, blockK_exit, blockK_ret, evOp, vOp, hOp, aWanted, aY, boolOf, opd, putT, closedV, undef, aBin, intOp, sameK, mapO, joinR, hasAddr, pushB, aAlloc, Value.cells, T3, T4, T22, FA24_0, FA24_1, FA24_2, FA24_3, FA24_4, FA24_5, FA24_6, FA24_7, FA24_8, LD3, LD4, LD22, LD27, LDr, LD24, LEN22, IA22, cellAt, lookB, Nat.beq_eq, takeCells, finF, takeM, resV, getT_set, setT_length, hl, hmk, h4, cleaned, kpT]

end Go.Proofs.Ytkoppbbmdjhaoaa
